/- What fed answers: the frames of the bytes, whether they break, and how many are left, however the bytes are cut; for up to a million bytes. -/
import Derived.Test.YtdhafnmahpafaaaAwake
namespace Go.Proofs.Ytdhafnmahpafaaa
open Go.RowKit

/-- So many numbers lie behind the address. -/
def IAt (w : World) (a : Option Addr) (n : Nat) : Prop := 0 < n → ∃ b o, a = some ⟨b, o, none⟩ ∧ ∀ j, j < n → ∃ z : Int, w.cell? ⟨b, o + j, none⟩ = some (.int .i64 z)

theorem IAt.below {w w' : World} {a : Option Addr} {n : Nat} (h : IAt w a n) (hb : Below w.heap.size w w') : IAt w' a n := by
  intro hn
  obtain ⟨b, o, rfl, hc⟩ := h hn
  refine ⟨b, o, rfl, fun j hj => ?_⟩
  obtain ⟨z, hz⟩ := hc j hj
  exact ⟨z, by rw [hb.cell (p := ⟨b, o + j, none⟩) (World.block_lt_of_cell? w _ hz)]; exact hz⟩

theorem pick_any (x : Int) (n : Nat) (w : World) (hn : 0 < n) (hn2 : n ≤ 4611686018427387904) :
    Calls Try.prog 23 #[.int .i64 x, .int .i64 n] w fun e w' => (∃ p : Nat, p < n ∧ e = .returned (.int .i64 p)) ∧ w' = w := by
  go_enter Try.func23, Try.ntmps23
  go_wp2
  · rename_i hneg
    go_ret
    have h1 := Int.lt_tmod_of_pos x (show (0 : Int) < n by omega)
    refine ⟨⟨(x.tmod n + n).toNat, by omega, ret_int ?_⟩, rfl⟩
    simp [wrap64]
    omega
  · rename_i hpos
    go_ret
    have h1 := Int.tmod_lt_of_pos x (show (0 : Int) < n by omega)
    exact ⟨⟨(x.tmod n).toNat, by omega, ret_int (by simp; omega)⟩, rfl⟩

theorem pick_of (x N : Int) (n : Nat) (w : World) (hN : N = n) (hn : 0 < n) (hn2 : n ≤ 4611686018427387904) :
    Calls Try.prog 23 #[.int .i64 x, .int .i64 N] w fun e w' => (∃ p : Nat, p < n ∧ e = .returned (.int .i64 p)) ∧ w' = w := by
  subst hN; exact pick_any x n w hn hn2

theorem owns_base {w : World} {base : Nat} {v : Value} {n : Nat} {xs : List Value} (h : w.ownsRow 0 27 2 v n xs) (hb : ∀ k, v.ownBlock = some k → base ≤ k) : w.ownsRow base 27 2 v n xs := by
  refine ⟨h.1, ?_⟩
  rcases h.2 with h1 | ⟨g, cap, cur, rfl, _, h3⟩
  · exact .inl h1
  · exact .inr ⟨g, cap, cur, rfl, hb g rfl, h3⟩

/-- 'append(v, x...)' at the operation: both rows of frames. -/
theorem wpList_pushes (w : World) {ops : Array Oper} {rest : List Oper} {o : Oper} {a : Act} {Q : Exit → Act → World → Prop} (hgd : o.guard = none) (s x : Operand)
    (ho : o.op = .call { callee := .builtin .append, args := #[s, x], argTypes := #[30, 30] })
    (base : Nat) (v v2 : Value) (its its2 : List It) (hs : a.eval s = v) (hown : w.ownsRow base 27 2 v its.length (its.flatMap It.cells)) (hx : a.eval x = v2) (hown2 : w.ownsRow 0 27 2 v2 its2.length (its2.flatMap It.cells))
    (hb : its.length + its2.length ≤ 4398046511104) (hbase : base ≤ w.heap.size)
    (h : ∀ v' w', w'.ownsRow base 27 2 v' (its ++ its2).length ((its ++ its2).flatMap It.cells) → w.grownBy w' v.ownBlock → wpList Try.prog ops Q rest (a.put o.dst v') w') : wpList Try.prog ops Q (o :: rest) a w := by
  obtain ⟨i0, hi, hz0, hz1, hz2⟩ := info_parts info27'
  rcases hown2.2 with ⟨rfl, hn⟩ | ⟨g, cap, cur, rfl, _, hg, hnc, _, _, ht⟩
  · have h2 : its2 = [] := List.eq_nil_of_length_eq_zero hn
    subst h2
    refine wpList_plain hgd fun K hK' => ?_
    have hrun := run_append_owned_none (P := Try.prog) w base 30 o.type 27 i0 2 Try.underlying30 hi _ _ _ hown
    unfold Oper.wp
    simp [execOp, ho, resolve, invoke, builtin, hs, hx, hrun, Result.andThen]
    exact hK' _ _ (h v w (by simpa using hown) (World.grownBy.refl _ _))
  · refine wpList_append_own w hgd s x 30 ho base 27 i0 _ 2 32 Try.underlying30 hi hz0 hz1 hz2 rfl (by omega) v its.length _ hs hown ⟨g, 0, none⟩ its2.length cap (its2.flatMap It.cells) hx hown2.1 (hown2.cells (g := g) rfl) (its_one its2) (by unfold maxLen; omega) (by omega) hbase ?_
    intro v' w' h1 h2 _
    refine h v' w' ?_ h2
    rw [List.length_append, List.flatMap_append]
    exact h1

theorem Blk.ne27 {w : World} {p base n : Nat} {br : Bool} {v u : Value} {xs : List Value} (h : Blk w p br v) (ho : w.ownsRow base 27 2 u n xs) : u.ownBlock ≠ some p := by
  intro hk
  rcases ho.2 with ⟨rfl, _⟩ | ⟨g, cap, cur, rfl, _, hg, _⟩
  · cases hk
  · simp [Value.ownBlock] at hk
    subst hk
    unfold Blk at h
    rw [h] at hg
    simp at hg

/-- What a round of fed keeps. -/
structure FedR (w wr : World) (p : Nat) (l : List UInt8) (c : Nat) (ar : Option Addr) (n cr : Nat) (ov : Value) (its : List It) (v : Value) : Prop where
  sum : c + n = l.length
  cap : n ≤ cr
  mem : At w ar (l.drop c)
  map : its.map It.fr = (takeOf (l.take c)).1
  rd : Rd wr p v (takeOf (l.take c)).2
  out : Frs wr (fun k => w.heap.size ≤ k) ov its
  apart : ∀ i ∈ its, ∀ k, i.val.ownBlock = some k → v.ownBlock ≠ some k
  below : Below w.heap.size w wr
  hi : ∀ k, v.ownBlock = some k → w.heap.size ≤ k

theorem take_more (l : List UInt8) (c m : Nat) : takeOf (l.take (c + m)) = ((takeOf (l.take c)).1 ++ (feedOf (takeOf (l.take c)).2 ((l.drop c).take m)).1, (feedOf (takeOf (l.take c)).2 ((l.drop c).take m)).2) := by
  rw [List.take_add, take_append]

theorem fed_next {w wr w2 w3 : World} {p : Nat} {l : List UInt8} {c : Nat} {b o n cr : Nat} {ov ov' vf v v' : Value} {its its2 : List It} (hr : FedR w wr p l c (some ⟨b, o, none⟩) n cr ov its v) (hp : w.heap.size ≤ p) (m : Nat) (hm : m ≤ n)
    (h1 : its2.map It.fr = (feedOf (takeOf (l.take c)).2 ((l.drop c).take m)).1) (h2 : Rd w2 p v' (feedOf (takeOf (l.take c)).2 ((l.drop c).take m)).2) (h3 : Frs w2 (fun k => wr.heap.size ≤ k ∧ v'.ownBlock ≠ some k) vf its2)
    (h4 : Kp (fun k => k = p ∨ v.ownBlock = some k) wr w2) (h5 : ∀ k, v'.ownBlock = some k → v.ownBlock = some k ∨ wr.heap.size ≤ k)
    (ho3 : w3.ownsRow w.heap.size 27 2 ov' (its ++ its2).length ((its ++ its2).flatMap It.cells)) (hg3 : w2.grownBy w3 ov.ownBlock)
    (ar' : Option Addr) (n' cr' : Nat) (hn' : n' = n - m) (hcr : n' ≤ cr') (har : m < n → ar' = some ⟨b, o + m, none⟩) :
    FedR w w3 p l (c + m) ar' n' cr' ov' (its ++ its2) v' := by
  subst hn'
  have hsum := hr.sum
  have hz := hr.below.size
  have hz2 := h4.size
  have hb2 : Below w.heap.size w w2 := hr.below.trans (h4.below (fun k hk => by rcases hk with rfl | hk; exact hp; exact hr.hi k hk) hz)
  have hout2 : w2.ownsRow 0 27 2 ov its.length (its.flatMap It.cells) := owns_kp hr.out.1 h4 fun k hk e => by
    rcases e with rfl | e
    · exact hr.rd.1.ne27 hr.out.1 hk
    · exact own_ne hr.rd.2 hr.out.1 k e hk
  have hits2 : ∀ i ∈ its ++ its2, Own w2 0 i.val i.body := by
    intro i hi
    rcases List.mem_append.1 hi with hi | hi
    · refine (hr.out.2.2 i hi).1.kp h4 fun k hk e => ?_
      rcases e with rfl | e
      · exact hr.rd.1.ne (hr.out.2.2 i hi).1 k hk rfl
      · exact hr.apart i hi k hk e
    · exact (h3.2.2 i hi).1
  have hk3 := Kp.grown hg3
  refine ⟨by omega, hcr, ?_, ?_, ?_, ⟨owns_le ho3, fun k hk => (ho3.lt k hk).1, fun i hi => ⟨(hits2 i hi).kp hk3 (own_ne (hits2 i hi) hout2), fun k hk => ?_⟩⟩, ?_, ?_, ?_⟩
  · intro hne
    have hlt : c + m < l.length := by
      rcases Nat.lt_or_ge (c + m) l.length with h | h
      · exact h
      · exact absurd (List.drop_eq_nil_of_le h) hne
    obtain ⟨b', o', he, hcell⟩ := hr.mem (by rw [Ne, List.drop_eq_nil_iff]; omega)
    cases he
    refine ⟨b, o + m, har (by omega), fun i hi => ?_⟩
    rw [List.length_drop] at hi
    rw [Nat.add_assoc, hcell (m + i) (by rw [List.length_drop]; omega), List.getElem_drop, List.getElem_drop]
    simp only [Nat.add_assoc]
  · rw [List.map_append, hr.map, h1, take_more]
  · rw [take_more]
    exact h2.kp hk3 (fun e => h2.1.ne27 hout2 e) (own_ne h2.2 hout2)
  · rcases List.mem_append.1 hi with hi | hi
    · exact (hr.out.2.2 i hi).2 k hk
    · have := ((h3.2.2 i hi).2 k hk).1; omega
  · intro i hi k hk e
    rcases List.mem_append.1 hi with hi | hi
    · rcases h5 k e with h | h
      · exact hr.apart i hi k hk h
      · have := ((hr.out.2.2 i hi).1.lt k hk).2; omega
    · exact ((h3.2.2 i hi).2 k hk).2 e
  · refine hb2.grown hg3 hb2.size ?_
    intro k hk
    exact hr.out.2.1 k hk
  · intro k hk
    rcases h5 k hk with h | h
    · exact hr.hi k h
    · omega


set_option maxRecDepth 100000 in
set_option maxHeartbeats 2000000 in
theorem fed_any (a sa : Option Addr) (len cap ns cs : Nat) (l : List UInt8) (w : World) (hl : l.length = len) (hlen : len ≤ 1000000) (hcap : len ≤ cap) (hat : At w a l) (hns : ns ≤ 4611686018427387904) (hsz : IAt w sa ns) :
    Calls Try.prog 22 #[.slice a len cap, .slice sa ns cs] w fun e w' => ∃ ao co its, its.map It.fr = (takeOf l).1 ∧ e = .returned (.tuple #[.slice ao its.length co, .bool (takeOf l).2.isNone, .int .i64 (((takeOf l).2.getD []).length : Int)]) ∧
      Frs w' (fun k => w.heap.size ≤ k) (.slice ao its.length co) its ∧ Below w.heap.size w w' := by
  subst hl
  go_enter Try.func22, Try.ntmps22
  go_wp2_with fail
  refine (new_any _).mono ?_
  rintro e w1 ⟨p, rfl, hp, hrd, hb1⟩
  go_wp2_with fail
  go_loopw [0, 8, 9, 10] (fun bv ov bb iv wr => ∃ (c : Nat) (ar : Option Addr) (n cr : Nat) (ao : Option Addr) (co : Nat) (its : List It) (v : Value) (i : Nat), bv = .slice ar n cr ∧ ov = .slice ao its.length co ∧ bb = .bool (takeOf (l.take c)).2.isNone ∧ iv = .int .i64 i ∧ i ≤ c ∧ FedR w wr p l c ar n cr ov its v) (fun bv _ _ _ _ => lenOf bv)
  case atStart =>
    refine ⟨0, a, l.length, cap, none, 0, [], .slice none 0 0, 0, rfl, rfl, ?_, rfl, Nat.le_refl _, ⟨by omega, hcap, hat, ?_, ?_, ⟨World.ownsRow_nil _ _ _ _, (fun k hk => by cases hk), by simp⟩, by simp, hb1, (fun k hk => by cases hk)⟩⟩
    · rw [List.take_zero, take_nil]; rfl
    · rw [List.take_zero, take_nil]; rfl
    · rw [List.take_zero, take_nil]; exact hrd
  case round =>
    obtain ⟨c, ar, n, cr, ao, co, its, v, i, rfl, rfl, rfl, rfl, hic, hr⟩ := hrel
    have hsum := hr.sum
    have hcr := hr.cap
    by_cases hn : n = 0
    · subst hn
      have hcl : c = l.length := by omega
      subst hcl
      rw [List.take_length] at *
      have hrd2 := hr.rd
      have hout := hr.out
      have hmap := hr.map
      rw [List.take_length] at hrd2 hmap
      go_wp2_with fail
      refine (left_any p v _ _ hrd2).mono ?_
      rintro e w2 ⟨rfl, rfl⟩
      go_wp2
      go_ret3
      exact ⟨ao, co, its, hmap, rfl, hout, hr.below⟩
    · have hn0 : 0 < n := by omega
      clear hn
      obtain ⟨br, hbr⟩ : ∃ br, br = (takeOf (l.take c)).2.isNone := ⟨_, rfl⟩
      rw [← hbr]
      have HBR := hid hbr
      clear hbr
      have hstl := take_len (l.take c)
      rw [List.length_take] at hstl
      obtain ⟨b, o, rfl, hcell⟩ := hr.mem (by rw [Ne, List.drop_eq_nil_iff]; omega)
      clear hcell
      have hd0 : decide ((0 : Int) < n) = true := decide_eq_true (by omega)
      by_cases hs : ns = 0
      · subst hs
        go_wp2_with fail
        refine (feed_any p cr n v _ _ ((l.drop c).take n) _ hr.rd (by rw [List.length_take, List.length_drop]; omega) (by omega) ((hr.mem.below hr.below).take n)).mono ?_
        rintro e w2 ⟨af, cf, v', its2, g1, rfl, g2, g3, g4, g5⟩
        have hc2 := take_len (l.take (c + n))
        rw [List.length_take, take_more] at hc2
        simp only [List.length_append, ← hr.map, ← g1, List.length_map] at hc2
        obtain ⟨nb, hnb⟩ : ∃ nb, nb = (feedOf (takeOf (l.take c)).2 ((l.drop c).take n)).2.isNone := ⟨_, rfl⟩
        rw [← hnb]
        obtain ⟨E, hE⟩ : ∃ E : Int, E = if nb then 30 else 0 := ⟨_, rfl⟩
        rw [← hE]
        have hE1 : (E != 0) = nb := by rw [hE]; cases nb <;> rfl
        replace hE := hid hE
        have hbb : br = true → nb = true := by
          intro hbt
          rw [hnb]
          rw [HBR.out, Option.isNone_iff_eq_none] at hbt
          rw [hbt]; rfl
        replace hnb := hid hnb
        have hbelow2 : Below w.heap.size w w2 := hr.below.trans (g4.below (fun k hk => by rcases hk with rfl | hk; exact hp; exact hr.hi k hk) hr.below.size)
        have hz2 := hbelow2.size
        have hout2 : w2.ownsRow w.heap.size 27 2 (.slice ao its.length co) its.length (its.flatMap It.cells) := owns_base (owns_kp hr.out.1 g4 fun k hk e => by
          rcases e with rfl | e
          · exact hr.rd.1.ne27 hr.out.1 hk
          · exact own_ne hr.rd.2 hr.out.1 k e hk) hr.out.2.1
        cases br with
        | true =>
          have hnt := hbb rfl
          clear hbb
          subst hnt
          go_wp2_with (at_builtin; refine wpList_pushes _ rfl (.tmp 48) (.tmp 49) rfl w.heap.size _ _ its its2 rfl hout2 rfl g3.1 (by omega) hz2 ?_; intro ov' w3 ho3 hg3)
          go_roundw
          case rel =>
            obtain ⟨a3, c3, rfl⟩ := owns_form ho3
            refine ⟨c + n, _, _, _, a3, c3, its ++ its2, v', i + 1, rfl, rfl, by rw [take_more, ← hnb.out], by go_num, by omega, fed_next hr hp n (by omega) g1 g2 g3 g4 g5 ho3 hg3 _ _ _ (by omega) (by omega) ?_⟩
            intro hlt
            first | rfl | omega | rw [if_neg (by omega)]
          case measure => simp only [lenOf]; omega
        | false =>
          clear hbb
          go_wp2_with (at_builtin; refine wpList_pushes _ rfl (.tmp 48) (.tmp 49) rfl w.heap.size _ _ its its2 rfl hout2 rfl g3.1 (by omega) hz2 ?_; intro ov' w3 ho3 hg3)
          go_roundw
          case rel =>
            obtain ⟨a3, c3, rfl⟩ := owns_form ho3
            refine ⟨c + n, _, _, _, a3, c3, its ++ its2, v', i + 1, rfl, rfl, by rw [take_more, ← hnb.out], by go_num, by omega, fed_next hr hp n (by omega) g1 g2 g3 g4 g5 ho3 hg3 _ _ _ (by omega) (by omega) ?_⟩
            intro hlt
            first | rfl | omega | rw [if_neg (by omega)]
          case measure => simp only [lenOf]; omega
      · have hds : decide ((0 : Int) < ns) = true := decide_eq_true (by omega)
        by_cases hi : i < 400
        · have hdi : decide ((i : Int) < 400) = true := decide_eq_true (by omega)
          obtain ⟨bs, os, rfl, hcs⟩ := (hsz.below hr.below) (by omega)
          obtain ⟨z, hz⟩ := hcs (i % ns) (Nat.mod_lt _ (by omega))
          have hmod : (i : Int).tmod ns = ((i % ns : Nat) : Int) := by rw [Int.tmod_eq_emod_of_nonneg (by omega)]; exact (Int.natCast_emod i ns).symm
          have hmlt : i % ns < ns := Nat.mod_lt _ (by omega)
          generalize i % ns = r at *
          go_wp2_with fail
          refine (pick_of z 50 50 _ rfl (by omega) (by omega)).mono ?_
          rintro e w' ⟨⟨q, hq, rfl⟩, rfl⟩
          by_cases hmin : 1 + q < n
          · have hmi : (1 + (q : Int)) < n := by omega
            go_wp2_with fail
            refine (feed_any p cr (1 + q) v _ _ ((l.drop c).take (1 + q)) _ hr.rd (by rw [List.length_take, List.length_drop]; omega) (by omega) ((hr.mem.below hr.below).take (1 + q))).mono ?_
            rintro e w2 ⟨af, cf, v', its2, g1, rfl, g2, g3, g4, g5⟩
            have hc2 := take_len (l.take (c + (1 + q)))
            rw [List.length_take, take_more] at hc2
            simp only [List.length_append, ← hr.map, ← g1, List.length_map] at hc2
            obtain ⟨nb, hnb⟩ : ∃ nb, nb = (feedOf (takeOf (l.take c)).2 ((l.drop c).take (1 + q))).2.isNone := ⟨_, rfl⟩
            rw [← hnb]
            obtain ⟨E, hE⟩ : ∃ E : Int, E = if nb then 30 else 0 := ⟨_, rfl⟩
            rw [← hE]
            have hE1 : (E != 0) = nb := by rw [hE]; cases nb <;> rfl
            replace hE := hid hE
            have hbb : br = true → nb = true := by
              intro hbt
              rw [hnb]
              rw [HBR.out, Option.isNone_iff_eq_none] at hbt
              rw [hbt]; rfl
            replace hnb := hid hnb
            have hbelow2 : Below w.heap.size w w2 := hr.below.trans (g4.below (fun k hk => by rcases hk with rfl | hk; exact hp; exact hr.hi k hk) hr.below.size)
            have hz2 := hbelow2.size
            have hout2 : w2.ownsRow w.heap.size 27 2 (.slice ao its.length co) its.length (its.flatMap It.cells) := owns_base (owns_kp hr.out.1 g4 fun k hk e => by
              rcases e with rfl | e
              · exact hr.rd.1.ne27 hr.out.1 hk
              · exact own_ne hr.rd.2 hr.out.1 k e hk) hr.out.2.1
            cases br with
            | true =>
              have hnt := hbb rfl
              clear hbb
              subst hnt
              go_wp2_with (at_builtin; refine wpList_pushes _ rfl (.tmp 48) (.tmp 49) rfl w.heap.size _ _ its its2 rfl hout2 rfl g3.1 (by omega) hz2 ?_; intro ov' w3 ho3 hg3)
              go_roundw
              case rel =>
                obtain ⟨a3, c3, rfl⟩ := owns_form ho3
                refine ⟨c + (1 + q), _, _, _, a3, c3, its ++ its2, v', i + 1, rfl, rfl, by rw [take_more, ← hnb.out], by go_num, by omega, fed_next hr hp (1 + q) (by omega) g1 g2 g3 g4 g5 ho3 hg3 _ _ _ (by omega) (by omega) ?_⟩
                intro hlt
                first | rfl | omega | rw [if_neg (by omega)]
              case measure => simp only [lenOf]; omega
            | false =>
              clear hbb
              go_wp2_with (at_builtin; refine wpList_pushes _ rfl (.tmp 48) (.tmp 49) rfl w.heap.size _ _ its its2 rfl hout2 rfl g3.1 (by omega) hz2 ?_; intro ov' w3 ho3 hg3)
              go_roundw
              case rel =>
                obtain ⟨a3, c3, rfl⟩ := owns_form ho3
                refine ⟨c + (1 + q), _, _, _, a3, c3, its ++ its2, v', i + 1, rfl, rfl, by rw [take_more, ← hnb.out], by go_num, by omega, fed_next hr hp (1 + q) (by omega) g1 g2 g3 g4 g5 ho3 hg3 _ _ _ (by omega) (by omega) ?_⟩
                intro hlt
                first | rfl | omega | rw [if_neg (by omega)]
              case measure => simp only [lenOf]; omega
          · have hmi : ¬ (1 + (q : Int)) < n := by omega
            go_wp2_with fail
            refine (feed_any p cr n v _ _ ((l.drop c).take n) _ hr.rd (by rw [List.length_take, List.length_drop]; omega) (by omega) ((hr.mem.below hr.below).take n)).mono ?_
            rintro e w2 ⟨af, cf, v', its2, g1, rfl, g2, g3, g4, g5⟩
            have hc2 := take_len (l.take (c + n))
            rw [List.length_take, take_more] at hc2
            simp only [List.length_append, ← hr.map, ← g1, List.length_map] at hc2
            obtain ⟨nb, hnb⟩ : ∃ nb, nb = (feedOf (takeOf (l.take c)).2 ((l.drop c).take n)).2.isNone := ⟨_, rfl⟩
            rw [← hnb]
            obtain ⟨E, hE⟩ : ∃ E : Int, E = if nb then 30 else 0 := ⟨_, rfl⟩
            rw [← hE]
            have hE1 : (E != 0) = nb := by rw [hE]; cases nb <;> rfl
            replace hE := hid hE
            have hbb : br = true → nb = true := by
              intro hbt
              rw [hnb]
              rw [HBR.out, Option.isNone_iff_eq_none] at hbt
              rw [hbt]; rfl
            replace hnb := hid hnb
            have hbelow2 : Below w.heap.size w w2 := hr.below.trans (g4.below (fun k hk => by rcases hk with rfl | hk; exact hp; exact hr.hi k hk) hr.below.size)
            have hz2 := hbelow2.size
            have hout2 : w2.ownsRow w.heap.size 27 2 (.slice ao its.length co) its.length (its.flatMap It.cells) := owns_base (owns_kp hr.out.1 g4 fun k hk e => by
              rcases e with rfl | e
              · exact hr.rd.1.ne27 hr.out.1 hk
              · exact own_ne hr.rd.2 hr.out.1 k e hk) hr.out.2.1
            cases br with
            | true =>
              have hnt := hbb rfl
              clear hbb
              subst hnt
              go_wp2_with (at_builtin; refine wpList_pushes _ rfl (.tmp 48) (.tmp 49) rfl w.heap.size _ _ its its2 rfl hout2 rfl g3.1 (by omega) hz2 ?_; intro ov' w3 ho3 hg3)
              go_roundw
              case rel =>
                obtain ⟨a3, c3, rfl⟩ := owns_form ho3
                refine ⟨c + n, _, _, _, a3, c3, its ++ its2, v', i + 1, rfl, rfl, by rw [take_more, ← hnb.out], by go_num, by omega, fed_next hr hp n (by omega) g1 g2 g3 g4 g5 ho3 hg3 _ _ _ (by omega) (by omega) ?_⟩
                intro hlt
                first | rfl | omega | rw [if_neg (by omega)]
              case measure => simp only [lenOf]; omega
            | false =>
              clear hbb
              go_wp2_with (at_builtin; refine wpList_pushes _ rfl (.tmp 48) (.tmp 49) rfl w.heap.size _ _ its its2 rfl hout2 rfl g3.1 (by omega) hz2 ?_; intro ov' w3 ho3 hg3)
              go_roundw
              case rel =>
                obtain ⟨a3, c3, rfl⟩ := owns_form ho3
                refine ⟨c + n, _, _, _, a3, c3, its ++ its2, v', i + 1, rfl, rfl, by rw [take_more, ← hnb.out], by go_num, by omega, fed_next hr hp n (by omega) g1 g2 g3 g4 g5 ho3 hg3 _ _ _ (by omega) (by omega) ?_⟩
                intro hlt
                first | rfl | omega | rw [if_neg (by omega)]
              case measure => simp only [lenOf]; omega
        · have hdi : decide ((i : Int) < 400) = false := decide_eq_false (by omega)
          go_wp2_with fail
          refine (feed_any p cr n v _ _ ((l.drop c).take n) _ hr.rd (by rw [List.length_take, List.length_drop]; omega) (by omega) ((hr.mem.below hr.below).take n)).mono ?_
          rintro e w2 ⟨af, cf, v', its2, g1, rfl, g2, g3, g4, g5⟩
          have hc2 := take_len (l.take (c + n))
          rw [List.length_take, take_more] at hc2
          simp only [List.length_append, ← hr.map, ← g1, List.length_map] at hc2
          obtain ⟨nb, hnb⟩ : ∃ nb, nb = (feedOf (takeOf (l.take c)).2 ((l.drop c).take n)).2.isNone := ⟨_, rfl⟩
          rw [← hnb]
          obtain ⟨E, hE⟩ : ∃ E : Int, E = if nb then 30 else 0 := ⟨_, rfl⟩
          rw [← hE]
          have hE1 : (E != 0) = nb := by rw [hE]; cases nb <;> rfl
          replace hE := hid hE
          have hbb : br = true → nb = true := by
            intro hbt
            rw [hnb]
            rw [HBR.out, Option.isNone_iff_eq_none] at hbt
            rw [hbt]; rfl
          replace hnb := hid hnb
          have hbelow2 : Below w.heap.size w w2 := hr.below.trans (g4.below (fun k hk => by rcases hk with rfl | hk; exact hp; exact hr.hi k hk) hr.below.size)
          have hz2 := hbelow2.size
          have hout2 : w2.ownsRow w.heap.size 27 2 (.slice ao its.length co) its.length (its.flatMap It.cells) := owns_base (owns_kp hr.out.1 g4 fun k hk e => by
            rcases e with rfl | e
            · exact hr.rd.1.ne27 hr.out.1 hk
            · exact own_ne hr.rd.2 hr.out.1 k e hk) hr.out.2.1
          cases br with
          | true =>
            have hnt := hbb rfl
            clear hbb
            subst hnt
            go_wp2_with (at_builtin; refine wpList_pushes _ rfl (.tmp 48) (.tmp 49) rfl w.heap.size _ _ its its2 rfl hout2 rfl g3.1 (by omega) hz2 ?_; intro ov' w3 ho3 hg3)
            go_roundw
            case rel =>
              obtain ⟨a3, c3, rfl⟩ := owns_form ho3
              refine ⟨c + n, _, _, _, a3, c3, its ++ its2, v', i + 1, rfl, rfl, by rw [take_more, ← hnb.out], by go_num, by omega, fed_next hr hp n (by omega) g1 g2 g3 g4 g5 ho3 hg3 _ _ _ (by omega) (by omega) ?_⟩
              intro hlt
              first | rfl | omega | rw [if_neg (by omega)]
            case measure => simp only [lenOf]; omega
          | false =>
            clear hbb
            go_wp2_with (at_builtin; refine wpList_pushes _ rfl (.tmp 48) (.tmp 49) rfl w.heap.size _ _ its its2 rfl hout2 rfl g3.1 (by omega) hz2 ?_; intro ov' w3 ho3 hg3)
            go_roundw
            case rel =>
              obtain ⟨a3, c3, rfl⟩ := owns_form ho3
              refine ⟨c + n, _, _, _, a3, c3, its ++ its2, v', i + 1, rfl, rfl, by rw [take_more, ← hnb.out], by go_num, by omega, fed_next hr hp n (by omega) g1 g2 g3 g4 g5 ho3 hg3 _ _ _ (by omega) (by omega) ?_⟩
              intro hlt
              first | rfl | omega | rw [if_neg (by omega)]
            case measure => simp only [lenOf]; omega
end Go.Proofs.Ytdhafnmahpafaaa
