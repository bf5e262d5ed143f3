/- What Feed answers: the frames that are whole, in memory of their own, and the reader then; for up to 39000000000000 bytes. -/
import Derived.Test.YtdhafnmahpafaaaFeed
import Derived.WalkMore
namespace Go.Proofs.Ytdhafnmahpafaaa
open Go.RowKit

/-- 'append(v, x...)' at the operation: v the call's own; what is turned is v's own row alone. -/
theorem wpList_more (w : World) {ops : Array Oper} {rest : List Oper} {o : Oper} {a : Act} {Q : Exit → Act → World → Prop} (hgd : o.guard = none) (s x : Operand)
    (ho : o.op = .call { callee := .builtin .append, args := #[s, x], argTypes := #[22, 22] }) (hty : o.type = 22)
    (base : Nat) (v : Value) (l src : List UInt8) (hs : a.eval s = v) (hown : Own w base v l) (ad : Option Addr) (m c : Nat) (hx : a.eval x = .slice ad m c) (hm : src.length = m) (hat : At w ad src)
    (hb : l.length + m ≤ 140737489000000) (hbase : base ≤ w.heap.size)
    (h : ∀ v' w', Own w' base v' (l ++ src) → w.grownBy w' v.ownBlock → (∀ k, v'.ownBlock = some k → v.ownBlock = some k ∨ w.heap.size ≤ k) → wpList Try.prog ops Q rest (a.put o.dst v') w') : wpList Try.prog ops Q (o :: rest) a w := by
  obtain ⟨v', w', hrun, h1, h2, h3⟩ := app_more w base v l src hown ad m c hm hat hb hbase
  refine wpList_plain hgd fun K hK => ?_
  unfold Oper.wp
  simp [execOp, ho, hty, resolve, invoke, builtin, hs, hx, hrun, Result.andThen]
  exact hK _ _ (h v' w' h1 h2 h3)

theorem FBlk.src {w : World} {g : Nat} {i : It} (h : FBlk w g (i.k.toNat : Int) (.slice i.a i.body.length i.c)) : ∀ j u, i.cells[j]? = some u → w.cell? ((⟨g, 0, none⟩ : Addr).add j) = some u := by
  intro j u hu
  have hadd : (⟨g, 0, none⟩ : Addr).add j = ⟨g, j, none⟩ := by unfold Addr.add; split <;> simp_all
  rw [hadd]
  match j, hu with
  | 0, hu => simp [It.cells] at hu; subst hu; exact h.c0
  | 1, hu => simp [It.cells] at hu; subst hu; exact h.c1
  | j + 2, hu => simp [It.cells] at hu

/-- 'append(v, f)' at the operation: v a row of frames of the call's own. -/
theorem wpList_push (w : World) {ops : Array Oper} {rest : List Oper} {o : Oper} {a : Act} {Q : Exit → Act → World → Prop} (hgd : o.guard = none) (s x : Operand)
    (ho : o.op = .call { callee := .builtin .append, args := #[s, x], argTypes := #[30, 30] })
    (base : Nat) (v : Value) (its : List It) (hs : a.eval s = v) (hown : w.ownsRow base 27 2 v its.length (its.flatMap It.cells)) (g c : Nat) (i : It) (hx : a.eval x = .slice (some ⟨g, 0, none⟩) 1 c)
    (hg : FBlk w g (i.k.toNat : Int) (.slice i.a i.body.length i.c)) (hb : its.length + 1 ≤ 4398046511104) (hbase : base ≤ w.heap.size)
    (h : ∀ v' w', w'.ownsRow base 27 2 v' (its ++ [i]).length ((its ++ [i]).flatMap It.cells) → w.grownBy w' v.ownBlock → wpList Try.prog ops Q rest (a.put o.dst v') w') : wpList Try.prog ops Q (o :: rest) a w := by
  obtain ⟨i0, hi, hz0, hz1, hz2⟩ := info_parts info27'
  refine wpList_append_own w hgd s x 30 ho base 27 i0 _ 2 32 Try.underlying30 hi hz0 hz1 hz2 rfl (by omega) v its.length _ hs hown ⟨g, 0, none⟩ 1 c i.cells hx rfl hg.src ?_ (by unfold maxLen; omega) (by omega) hbase ?_
  · intro u hu
    exact its_one [i] u (by simpa using hu)
  · intro v' w' h1 h2 _
    refine h v' w' ?_ h2
    rw [List.length_append, List.flatMap_append]
    simpa using h1

theorem feed_broken (p cap len : Nat) (v : Value) (a : Option Addr) (w : World) (h : Rd w p v none) :
    Calls Try.prog 10 #[.pointer (some ⟨p, 0, none⟩), .slice a len cap] w fun e w' => e = .returned (.tuple #[.slice none 0 0, .int .i64 30]) ∧ w' = w := by
  have h1 := h.1.c1
  go_enter Try.func10, Try.ntmps10
  go_wp2_with fail
  go_step3
  go_wp2_with fail
  refine (isone_yes p _ _ _ h.1).mono ?_
  rintro e w1 ⟨rfl, rfl⟩
  go_wp2
  rw [Exit.noGoto_ret]
  go_ret2
  exact ⟨rfl, rfl⟩

def lenOf : Value → Nat
  | .slice _ n _ => n
  | _ => 0

/-- What a round of Feed's loop keeps. -/
structure Round (w1 wr : World) (all : List UInt8) (v1 rest fr : Value) (its : List It) (m : List UInt8) (ar : Option Addr) (n cr : Nat) : Prop where
  eq : rest = .slice ar n cr
  len : m.length = n
  cap : n ≤ cr
  mem : At w1 ar m
  take : takeOf all = (its.map It.fr ++ (takeOf m).1, (takeOf m).2)
  own : wr.ownsRow w1.heap.size 27 2 fr its.length (its.flatMap It.cells)
  all_ : ∀ i ∈ its, Own wr w1.heap.size i.val i.body
  le : m.length ≤ all.length
  below : Below w1.heap.size w1 wr
  same : its = [] → m = all ∧ rest = v1

theorem Round.num {w1 wr : World} {all : List UInt8} {v1 rest fr : Value} {its : List It} {m : List UInt8} {ar : Option Addr} {n cr : Nat} (h : Round w1 wr all v1 rest fr its m ar n cr) : 9 * (its.length + (takeOf m).1.length) + ((takeOf m).2.getD []).length ≤ all.length := by
  have h1 := take_len all
  rw [h.take] at h1
  simpa using h1

theorem owns_form {w : World} {base : Nat} {v : Value} {its : List It} (h : w.ownsRow base 27 2 v its.length (its.flatMap It.cells)) : ∃ a c, v = .slice a its.length c := by
  rcases h.2 with ⟨rfl, hn⟩ | ⟨g, cap, cur, rfl, _⟩
  · exact ⟨none, 0, by rw [hn]⟩
  · exact ⟨_, cap, rfl⟩

theorem owns_le {w : World} {base : Nat} {v : Value} {n : Nat} {xs : List Value} (h : w.ownsRow base 27 2 v n xs) : w.ownsRow 0 27 2 v n xs := by
  refine ⟨h.1, ?_⟩
  rcases h.2 with h1 | ⟨g, cap, cur, h1, h2, h3⟩
  · exact .inl h1
  · exact .inr ⟨g, cap, cur, h1, by omega, h3⟩

/-- The reader and the frames behind the last step of a Feed. -/
theorem feed_end {w w1 w3 w' : World} {p : Nat} {v0 v1 v' fr : Value} {its : List It} {st : Option (List UInt8)} (hk1 : Kp (fun k => v0.ownBlock = some k) w w1) (hv1 : ∀ k, v1.ownBlock = some k → v0.ownBlock = some k ∨ w.heap.size ≤ k)
    (hv1' : ∀ k, v1.ownBlock = some k → k < w1.heap.size) (hk3 : Kp (fun k => k = p) w1 w3) (hp : p < w1.heap.size) (hf : Frs w3 (fun k => w1.heap.size ≤ k ∧ k < w3.heap.size) fr its)
    (hblk : Blk w' p st.isNone v') (hown : Own w' 0 v' (st.getD [])) (hk' : Kp (fun k => k = p) w3 w') (hv' : ∀ k, v'.ownBlock = some k → w3.heap.size ≤ k ∨ v1.ownBlock = some k) :
    Rd w' p v' st ∧ Frs w' (fun k => w.heap.size ≤ k ∧ v'.ownBlock ≠ some k) fr its ∧ Kp (fun k => k = p ∨ v0.ownBlock = some k) w w' ∧ (∀ k, v'.ownBlock = some k → v0.ownBlock = some k ∨ w.heap.size ≤ k) := by
  have s1 := hk1.size
  have s3 := hk3.size
  refine ⟨⟨hblk, hown⟩, (hf.kp hk' fun k hk e => by omega).mono fun k hk => ⟨by omega, fun e => ?_⟩, ?_, ?_⟩
  · rcases hv' k e with h | h
    · omega
    · have := hv1' k h; omega
  · exact ((hk1.mono fun k _ h => Or.inr h).trans (hk3.mono fun k _ h => Or.inl h)).trans (hk'.mono fun k _ h => Or.inl h)
  · intro k hk
    rcases hv' k hk with h | h
    · right; omega
    · exact hv1 k h

theorem round_next {w1 wr w2 w3 : World} {all : List UInt8} {v1 v3 : Value} {its : List It} {m body : List UInt8} {b o cr size cb cf : Nat} {ab af : Option Addr} {k : UInt8} {o1 o2 : Obj}
    (hr : Round w1 wr all v1 (.slice (some ⟨b, o, none⟩) m.length cr) (.slice af its.length cf) its m (some ⟨b, o, none⟩) m.length cr) (hh : headOf m = some (some (k, body, size))) (hb2 : Below wr.heap.size wr w2) (ho : Own w2 wr.heap.size (.slice ab body.length cb) body)
    (ho3 : w3.ownsRow w1.heap.size 27 2 v3 (its ++ [(⟨k, body, ab, cb⟩ : It)]).length ((its ++ [(⟨k, body, ab, cb⟩ : It)]).flatMap It.cells)) (hg3 : ((w2.alloc o1).alloc o2).grownBy w3 (Value.slice af its.length cf).ownBlock)
    (ar' : Option Addr) (n' cr' : Nat) (hn : n' = m.length - size) (hc : n' ≤ cr') (har : m.drop size ≠ [] → ar' = some ⟨b, o + size, none⟩) :
    Round w1 w3 all v1 (.slice ar' n' cr') v3 (its ++ [⟨k, body, ab, cb⟩]) (m.drop size) ar' n' cr' := by
  subst hn
  have hs := head_size hh
  have hz := hr.below.size
  have hob := (owns_kp hr.own (Kp.of_below (S := fun _ => False) hb2) (fun _ _ h => h))
  have hob' := (hob.alloc o1).alloc o2
  refine ⟨rfl, by rw [List.length_drop], hc, ?_, ?_, ho3, ?_, ?_, ?_, fun h => absurd h (by simp)⟩
  · intro hne
    obtain ⟨b', o', he, hcell⟩ := hr.mem (by intro e; subst e; simp at hne)
    cases he
    refine ⟨b, o + size, har hne, fun i hi => ?_⟩
    rw [List.length_drop] at hi
    rw [Nat.add_assoc, hcell (size + i) (by omega), List.getElem_drop]
  · rw [hr.take, take_whole hh]
    simp [It.fr]
  · intro i hi
    have h1 : Own w2 w1.heap.size i.val i.body := by
      rcases List.mem_append.1 hi with hi | hi
      · exact (hr.all_ i hi).below hb2
      · simp at hi
        subst hi
        exact ho.le hz
    have h2 := (h1.alloc o1).alloc o2
    exact h2.kp (Kp.grown hg3) (own_ne h2 hob')
  · rw [List.length_drop]; have := hr.le; omega
  · have h3 := hb2.size
    refine Below.grown ((((hr.below.trans (hb2.mono hz)).alloc (by omega) o1).alloc (by simp; omega) o2)) hg3 (by simp; omega) ?_
    intro k' hk'
    exact (hr.own.lt k' hk').1

set_option maxRecDepth 100000 in
set_option maxHeartbeats 1000000 in
theorem feed_some (p cap len : Nat) (v : Value) (a : Option Addr) (left l all : List UInt8) (w : World) (h : Rd w p v (some left)) (hl : l.length = len) (hall : all = left ++ l) (hlen : all.length ≤ 39000000000000) (hat : At w a l) :
    Calls Try.prog 10 #[.pointer (some ⟨p, 0, none⟩), .slice a len cap] w fun e w' => ∃ vf v' its, its.map It.fr = (takeOf all).1 ∧ e = .returned (.tuple #[vf, .int .i64 (if (takeOf all).2.isNone then 30 else 0)]) ∧
      Rd w' p v' (takeOf all).2 ∧ Frs w' (fun k => w.heap.size ≤ k ∧ v'.ownBlock ≠ some k) vf its ∧ Kp (fun k => k = p ∨ v.ownBlock = some k) w w' ∧ (∀ k, v'.ownBlock = some k → v.ownBlock = some k ∨ w.heap.size ≤ k) := by
  obtain ⟨hblk, hown⟩ := h
  simp only [Option.isNone_some, Option.getD_some] at hblk hown
  have h1 := hblk.c1
  obtain ⟨a0, c0, rfl, _, _⟩ := hown.form
  have h2 := hblk.c2
  have hal : all.length = left.length + len := by rw [hall, List.length_append, hl]
  replace hall := hid hall
  go_enter Try.func10, Try.ntmps10
  go_wp2_with fail
  go_step3
  go_wp2_with fail
  refine (isone_yes p _ _ _ hblk).mono ?_
  rintro e w0 ⟨rfl, rfl⟩
  go_wp2_with (at_builtin; refine wpList_more _ rfl (.tmp 21) (.tmp 22) rfl rfl 0 _ left l rfl hown a len cap rfl hl hat (by omega) (Nat.zero_le _) ?_; intro v1 w1 ho1 hg1 hv1)
  go_step3
  go_wp2_with fail
  rw [← hall.out] at ho1
  have hb1 : Blk w1 p false (.slice a0 left.length c0) := hblk.kp (Kp.grown hg1) (fun e => hblk.ne hown p e rfl)
  have hk1 := Kp.grown hg1
  obtain ⟨a1, c1, rfl, hc1, hat1⟩ := ho1.form
  replace h1 := hid h1
  replace h2 := hid h2
  replace hal := hid hal
  go_loopw [6, 7] (fun rest fr wr => ∃ its m ar n cr, Round w1 wr all (.slice a1 all.length c1) rest fr its m ar n cr) (fun rest _ _ => lenOf rest)
  case atStart => exact ⟨[], all, a1, all.length, c1, ⟨rfl, rfl, hc1, hat1, by simp, World.ownsRow_nil _ _ _ _, by simp, Nat.le_refl _, Below.refl _ _, fun _ => ⟨rfl, rfl⟩⟩⟩
  case round =>
    obtain ⟨its, m, ar, n, cr, hr⟩ := hrel
    have hnum := hr.num
    obtain rfl := hr.eq
    obtain rfl := hr.len
    obtain ⟨af, cf, rfl⟩ := owns_form hr.own
    have hmem := hr.mem.below hr.below
    have hcap := hr.cap
    have hml := hr.le
    go_wp2_with fail
    refine (first_any ar cr m _ (by omega) hcap hmem).mono ?_
    rintro e w2 ⟨hpost, hb2⟩
    have hb3 := hr.below.trans (hb2.mono hr.below.size)
    have hbk := hb1.below hb3
    have hbc := hbk.c1
    have hbf := hbk.free 1
    have hp1 := hb1.lt
    have hfr : Frs w2 (fun k => w1.heap.size ≤ k ∧ k < w2.heap.size) (.slice af its.length cf) its := by
      refine ⟨owns_le (owns_kp hr.own (Kp.of_below (S := fun _ => False) hb2) (fun _ _ h => h)), fun k hk => ?_, fun i hi => ⟨((hr.all_ i hi).below hb2).le (Nat.zero_le _), fun k hk => ?_⟩⟩
      · have := hr.own.lt k hk; have := hb2.size; omega
      · have := (hr.all_ i hi).lt k hk; have := hb2.size; omega
    unfold FirstPost at hpost
    rcases hh : headOf m with _ | _ | ⟨k, body, size⟩
    · rw [hh] at hpost
      subst hpost
      have htk := hr.take
      rw [take_cut hh, List.append_nil] at htk
      have hown1 : decide (0 < its.length) = false → Own (w2.alloc (.cells #[.int .u8 0, .slice none 0 0] 27)) 0 (.slice ar m.length cr) m := by
        intro hd
        have hi : its = [] := List.eq_nil_of_length_eq_zero (by simpa using hd)
        obtain ⟨e1, e2⟩ := hr.same hi
        rw [e2, e1]
        exact (ho1.below hb3).alloc _
      have hpst : ∀ k, decide (0 < its.length) = false ∧ (Value.slice ar m.length cr).ownBlock = some k → (Value.slice a1 all.length c1).ownBlock = some k := by
        intro k hk
        have hi : its = [] := List.eq_nil_of_length_eq_zero (by simpa using hk.1)
        rw [← (hr.same hi).2]
        exact hk.2
      go_wp2_with fail
      refine (keep_any p m.length cr false _ _ ar m _ (hbk.below (below_lit _ _)) rfl (by omega) ((hmem.below hb2).below (below_lit _ _)) hown1).mono ?_
      rintro e w5 ⟨rfl, v', hbl, how, hkp, hvk⟩
      have hc5 := hbl.c1
      go_wp2
      first | go_ret2 | (rw [Exit.noGoto_ret]; go_ret2)
      have hE := feed_end (st := some m) hk1 hv1 (fun k hk => (ho1.lt k hk).2) (Kp.of_below (S := fun k => k = p) (hb3.trans ((below_lit w2 _).mono hb3.size))) hp1 ((hfr.below (below_lit w2 _)).mono fun k hk => ⟨hk.1, by simp; omega⟩) hbl how hkp (fun k hk => (hvk k hk).imp id (hpst k))
      refine ⟨_, v', its, by rw [htk], ?_, by rw [htk]; exact hE.1, hE.2.1, hE.2.2.1, hE.2.2.2⟩
      rw [htk]
      rfl
    · rw [hh] at hpost
      subst hpost
      have htk := hr.take
      rw [take_wrong hh, List.append_nil] at htk
      have hbk' := hbk.below (below_lit w2 (.cells #[.int .u8 0, .slice none 0 0] 27))
      have hbc' := hbk'.c1
      have hbf' := hbk'.free 1
      go_wp2_with fail
      have hk6 : Kp (fun k => k = p) w1 ((w2.alloc (.cells #[.int .u8 0, .slice none 0 0] 27)).setCell ⟨p, 1, none⟩ (.bool true)) := Kp.setCell (S := fun k => k = p) (p := ⟨p, 1, none⟩) (Kp.of_below (hb3.trans ((below_lit w2 _).mono hb3.size))) rfl _
      have hk7 : Kp (fun k => k = p) (w2.alloc (.cells #[.int .u8 0, .slice none 0 0] 27)) ((w2.alloc (.cells #[.int .u8 0, .slice none 0 0] 27)).setCell ⟨p, 1, none⟩ (.bool true)) := Kp.setCell (S := fun k => k = p) (p := ⟨p, 1, none⟩) (Kp.refl _ _) rfl _
      refine (keep_any p 0 0 true _ _ none [] _ (hbk'.set1 true) rfl (by omega) (at_nil _ _) (fun _ => Own.nil _ _)).mono ?_
      rintro e w5 ⟨rfl, v', hbl, how, hkp, hvk⟩
      have hc5 := hbl.c1
      go_wp2
      first | go_ret2 | (rw [Exit.noGoto_ret]; go_ret2)
      have hE := feed_end (st := none) (v1 := .slice a1 all.length c1) hk1 hv1 (fun k hk => (ho1.lt k hk).2) hk6 hp1 (((hfr.below (below_lit w2 _)).kp hk7 fun k hk e => by omega).mono fun k hk => ⟨hk.1, by simp; omega⟩) hbl how hkp (fun k hk => (hvk k hk).imp id fun h => by cases h.2)
      refine ⟨_, v', its, by rw [htk], ?_, by rw [htk]; exact hE.1, hE.2.1, hE.2.2.1, hE.2.2.2⟩
      rw [htk]
      rfl
    · rw [hh] at hpost
      obtain ⟨vb, rfl, ho⟩ := hpost
      obtain ⟨ab, cb, rfl, _, hatb⟩ := ho.form
      have hs := head_size hh
      obtain ⟨b, o, rfl, hcm⟩ := hmem (by intro e; subst e; simp at hs; omega)
      have hnum2 := hnum
      rw [take_whole hh] at hnum2
      simp only [List.length_cons] at hnum2
      have hfb : FBlk ((w2.alloc (.cells #[.int .u8 (k.toNat : Int), .slice ab body.length cb] 27)).alloc (.cells #[.int .u8 (k.toNat : Int), .slice ab body.length cb] 27)) (w2.heap.size + 1) (k.toNat : Int) (.slice ab body.length cb) := by
        have := FBlk.new (w2.alloc (.cells #[.int .u8 (k.toNat : Int), .slice ab body.length cb] 27)) (k.toNat : Int) (.slice ab body.length cb)
        simpa using this
      have hob := (owns_kp hr.own (Kp.of_below (S := fun _ => False) hb2) (fun _ _ h => h))
      have hz := hb3.size
      go_wp2_with (at_builtin; refine wpList_push _ rfl (.tmp 38) (.tmp 40) rfl w1.heap.size _ its rfl ((hob.alloc _).alloc _) (w2.heap.size + 1) 1 ⟨k, body, ab, cb⟩ rfl hfb (by omega) (by simp; omega) ?_; intro v3 w3 ho3 hg3)
      have hse : size = body.length + 9 := hs.2.2
      refine ⟨⟨its ++ [⟨k, body, ab, cb⟩], m.drop size, _, _, _, round_next hr hh hb2 ho ho3 hg3 _ _ _ (by rw [hse]) (by omega) ?_⟩, ?_⟩
      · intro hne
        rw [Ne, List.drop_eq_nil_iff] at hne
        rw [if_neg (by omega), hse]
      · simp only [lenOf]
        omega

/-- What Feed answers. -/
theorem feed_any (p cap len : Nat) (v : Value) (a : Option Addr) (st : Option (List UInt8)) (l : List UInt8) (w : World) (h : Rd w p v st) (hl : l.length = len) (hlen : (st.getD []).length + len ≤ 39000000000000) (hat : At w a l) :
    Calls Try.prog 10 #[.pointer (some ⟨p, 0, none⟩), .slice a len cap] w fun e w' => ∃ af cf v' its, its.map It.fr = (feedOf st l).1 ∧ e = .returned (.tuple #[.slice af its.length cf, .int .i64 (if (feedOf st l).2.isNone then 30 else 0)]) ∧
      Rd w' p v' (feedOf st l).2 ∧ Frs w' (fun k => w.heap.size ≤ k ∧ v'.ownBlock ≠ some k) (.slice af its.length cf) its ∧ Kp (fun k => k = p ∨ v.ownBlock = some k) w w' ∧ (∀ k, v'.ownBlock = some k → v.ownBlock = some k ∨ w.heap.size ≤ k) := by
  cases st with
  | none =>
    refine (feed_broken p cap len v a w h).mono ?_
    rintro e w' ⟨rfl, rfl⟩
    exact ⟨none, 0, v, [], rfl, rfl, h, ⟨World.ownsRow_nil _ _ _ _, (fun k hk => by cases hk), by simp⟩, Kp.refl _ _, fun k hk => .inl hk⟩
  | some left =>
    refine (feed_some p cap len v a left l (left ++ l) w h hl rfl (by rw [List.length_append, hl]; exact hlen) hat).mono ?_
    rintro e w' ⟨vf, v', its, h1, rfl, h2, h3, h4, h5⟩
    obtain ⟨af, cf, rfl⟩ := owns_form h3.1
    exact ⟨af, cf, v', its, h1, rfl, h2, h3, h4, h5⟩
end Go.Proofs.Ytdhafnmahpafaaa
