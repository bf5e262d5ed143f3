/- FrameBack's Go text returns true for any frames, sizes, frame and bit, and turns nothing that was there. -/
import Derived.Test.YtdhafnmahpafaaaBackBase
import Derived.Laws.BitsAllLaws
namespace Go.Proofs.Ytdhafnmahpafaaa
open Go.RowKit

/-- What a round of the loop keeps. -/
structure BackR (w wr : World) (g : List It) (av bv wv : Value) : Prop where
  all : Own wr w.heap.size av (bytesOf g)
  beg : Nums wr w.heap.size bv (startsOf g)
  want : wr.ownsRow w.heap.size 27 2 wv g.length (g.flatMap It.cells)
  below : Below w.heap.size w wr

theorem BackR.step {w wr w' : World} {g : List It} {av bv wv : Value} (h : BackR w wr g av bv wv) (hb : Below wr.heap.size wr w') : BackR w w' g av bv wv :=
  ⟨h.all.below hb, h.beg.kp (Kp.of_below (S := fun _ => False) hb) (fun _ _ h => h), owns_kp h.want (Kp.of_below (S := fun _ => False) hb) (fun _ _ h => h), bnext h.below hb⟩

theorem nums_form {w : World} {base : Nat} {v : Value} {l : List Nat} {n : Nat} (h : Nums w base v l) (hn : l.length = n) : ∃ a c, v = .slice a n c := by
  subst hn
  rcases h.2 with ⟨rfl, hn⟩ | ⟨g, cap, cur, rfl, _⟩
  · exact ⟨none, 0, by rw [hn]⟩
  · exact ⟨_, cap, rfl⟩

theorem owns_fat {w : World} {base n c : Nat} {a : Option Addr} {its : List It} (h : w.ownsRow base 27 2 (.slice a n c) its.length (its.flatMap It.cells)) (hi : ∀ i ∈ its, At w i.a i.body) : FAt w a its := by
  refine ⟨fun hne => ?_, hi⟩
  rcases h.2 with ⟨he, hn⟩ | ⟨g, cap, cur, hv, _, hg, _, _, _, ht⟩
  · exact absurd (List.eq_nil_of_length_eq_zero hn) hne
  · simp only [Value.slice.injEq] at hv
    obtain ⟨rfl, _, _⟩ := hv
    refine ⟨g, 0, rfl, fun j hj => ?_⟩
    obtain ⟨h1, h2⟩ := cells_get its j hj
    rw [← ht, List.getElem?_take, if_pos (by omega)] at h1 h2
    constructor
    · rw [Nat.zero_add]; simp [World.cell?, hg]; simpa using h1
    · rw [Nat.zero_add]; simp [World.cell?, hg]; simpa using h2

theorem FAt.take {w : World} {a : Option Addr} {its : List It} (h : FAt w a its) (n : Nat) : FAt w a (its.take n) := by
  refine ⟨fun hne => ?_, fun i hi => h.2 i (List.mem_of_mem_take hi)⟩
  obtain ⟨b, o, rfl, hc⟩ := h.1 (by intro e; subst e; simp at hne)
  refine ⟨b, o, rfl, fun j hj => ?_⟩
  rw [List.length_take] at hj
  have := hc j (by omega)
  rw [List.getElem_take]
  exact this

theorem nums_pos {w : World} {base : Nat} {a : Option Addr} {n c : Nat} {l : List Nat} (h : Nums w base (.slice a n c) l) (hn : l.length = n) (hp : 0 < n) : ∃ g, a = some ⟨g, 0, none⟩ ∧ ∀ j (hj : j < l.length), w.cell? ⟨g, j, none⟩ = some (.int .i64 (l[j] : Int)) := by
  subst hn
  rcases h.2 with ⟨he, hn⟩ | ⟨g, cap, cur, hv, _⟩
  · omega
  · simp only [Value.slice.injEq] at hv
    obtain ⟨rfl, _, rfl⟩ := hv
    refine ⟨g, rfl, fun j hj => ?_⟩
    have := World.ownsRow.cellAt h j (by omega)
    rw [this]
    simp [hj]

theorem byte_xor2 (x : UInt8) (r : Nat) : bits .xor .u8 (x.toNat : Int) (2 ^ r % 256) = ((x ^^^ UInt8.ofNat (2 ^ r)).toNat : Int) := by
  have e : (2 : Int) ^ r % 256 = ((2 ^ r % 256 : Nat) : Int) := by simp
  have h := u8_xor_nat x.toNat (2 ^ r % 256) x.toNat_lt (Nat.mod_lt _ (by omega))
  rw [e, h, UInt8.toNat_xor]
  congr 2

theorem xor_ne (x : UInt8) (r : Nat) (h : r < 8) : x ^^^ UInt8.ofNat (2 ^ r) ≠ x := by
  intro e
  have h0 : UInt8.ofNat (2 ^ r) = 0 := by
    have : x ^^^ (x ^^^ UInt8.ofNat (2 ^ r)) = x ^^^ x := by rw [e]
    rw [← UInt8.xor_assoc, UInt8.xor_self, UInt8.zero_xor] at this
    exact this
  have h1 := congrArg UInt8.toNat h0
  simp only [UInt8.toNat_ofNat'] at h1
  have h2 : 2 ^ r ≤ 2 ^ 7 := Nat.pow_le_pow_right (by omega) (by omega)
  have h3 : 0 < 2 ^ r := Nat.pow_pos (by omega)
  rw [Nat.mod_eq_of_lt (by omega)] at h1
  simp at h1

theorem owns_cap {w : World} {base n c : Nat} {a : Option Addr} {k : Nat} {xs : List Value} (h : w.ownsRow base 27 2 (.slice a n c) k xs) : k ≤ c := by
  rcases h.2 with ⟨he, hn⟩ | ⟨g, cap, cur, hv, _, _, hc, _⟩
  · omega
  · simp only [Value.slice.injEq] at hv
    omega

theorem back_sum (g : List It) (hsh : ∀ i ∈ g, i.body.length ≤ 65535) : takeOf (bytesOf g) = (g.map It.fr, some []) := by
  have := take_bytes g hsh []
  rw [List.append_nil, take_nil, List.append_nil] at this
  exact this

set_option maxRecDepth 100000 in
set_option maxHeartbeats 2000000 in
theorem back_any (a sa : Option Addr) (len cap ns cs : Nat) (x y : Int) (its : List It) (w : World) (hl : its.length = len) (hlen : len ≤ 4611686018427387904) (hat : FAt w a its) (hns : ns ≤ 4611686018427387904) (hsz : IAt w sa ns) :
    Calls Try.prog 7 #[.slice a len cap, .slice sa ns cs, .int .i64 x, .int .i64 y] w fun e w' => e = .returned (.bool true) ∧ Below w.heap.size w w' := by
  subst hl
  go_enter Try.func7, Try.ntmps7
  go_wp2_with fail
  go_loopw [9, 10, 11, 12] (fun av bv wv iv wr => ∃ i : Nat, i ≤ 5 ∧ i ≤ its.length ∧ iv = .int .i64 i ∧ BackR w wr (goods its i) av bv wv) (fun _ _ _ iv _ => 5 - (intOf iv).toNat)
  case atStart => exact ⟨0, by omega, by omega, rfl, ⟨Own.nil _ _, World.ownsRow_nil _ _ _ _, World.ownsRow_nil _ _ _ _, Below.refl _ _⟩⟩
  case round =>
    obtain ⟨i, hi5, hil, rfl, hr⟩ := hrel
    have hgl := goods_len its i
    have hbl := bytes_len (goods its i) (goods_short its i)
    obtain ⟨aa, ca, rfl, hca, _⟩ := hr.all.form
    obtain ⟨ab, cb, rfl⟩ := nums_form hr.beg (starts_len _)
    obtain ⟨aw, cw, rfl⟩ := owns_form hr.want
    by_cases hin : i < its.length ∧ i < 5
    · obtain ⟨h1, h2⟩ := hin
      have hd1 : decide ((i : Int) < its.length) = true := decide_eq_true (by omega)
      have hd2 : decide ((i : Int) < 5) = true := decide_eq_true (by omega)
      have hfr := hat.2 its[i] (List.getElem_mem _)
      obtain ⟨b, o, rfl, hc⟩ := hat.1 (by intro e; subst e; simp at h1)
      obtain ⟨x1, x2⟩ := hc i h1
      have hbd := hfr.below hr.below
      have hblt : b < w.heap.size := World.block_lt_of_cell? w _ x1
      have hcl : ∀ w', Below w.heap.size w w' → w'.cell? ⟨b, o + i * 2, none⟩ = some (.int .u8 (its[i].k.toNat : Int)) ∧ w'.cell? ⟨b, o + i * 2 + 1, none⟩ = some (.slice its[i].a its[i].body.length its[i].c) := fun w' hw => ⟨(hw.cell (p := ⟨b, o + i * 2, none⟩) hblt).trans x1, (hw.cell (p := ⟨b, o + i * 2 + 1, none⟩) hblt).trans x2⟩
      clear x1 x2
      obtain ⟨x1, x2⟩ := hcl _ hr.below
      have hgy := goods_yes its i h1
      have hgn := goods_no its i h1
      generalize hit : its[i] = it at *
      clear hit hc hfr
      by_cases hb : it.body.length ≤ 65535
      · replace hgy := hgy hb
        clear hgn
        generalize goods its i = g at *
        go_wp2_with fail
        refine (putf_any it.k it.body.length it.c it.a it.body _ rfl hb hbd).mono ?_
        rintro e w1 ⟨g0, rfl, hg0, hrow, hb1⟩
        have hr1 := (hr.step hb1).step (below_lit w1 (.cells #[.int .i64 ((bytesOf g).length : Int)] 3))
        have hrow1 := (hrow.below (below_lit w1 (.cells #[.int .i64 ((bytesOf g).length : Int)] 3))).own (base := 0) (n := it.body.length + 9) (frame_len it.fr) (Nat.zero_le _) (by omega)
        have hcn : (w1.alloc (.cells #[.int .i64 ((bytesOf g).length : Int)] 3)).cell? ⟨w1.heap.size, 0, none⟩ = some (.int .i64 ((bytesOf g).length : Int)) := by
          rw [cell_of_row _ w1.heap.size 0 _ 3 (0, 0) (heap_alloc_new w1 _)]; rfl
        have hz1 := hr1.below.size
        have hfl := frame_len it.fr
        have hhl : it.fr.2.length = it.body.length := rfl
        rw [hhl] at hfl
        have hsl : (startsOf g).length + 1 ≤ 1000000 := by rw [starts_len]; omega
        replace hcl := hid hcl
        replace hhl := hid hhl
        replace hgy := hid hgy
        replace hrow := hid hrow
        replace hcn := hid hcn
        replace hfl := hid hfl
        go_wp2_with (first
          | (at_builtin; refine wpList_num _ rfl (.tmp 40) (.tmp 43) rfl w.heap.size _ (startsOf g) rfl hr1.beg w1.heap.size 1 (bytesOf g).length rfl hcn.out hsl hz1 ?_; intro bv2 w2 hbe2 hg2; have hall2 := hr1.all.kp (Kp.grown hg2) (owns_apart hr1.all hr1.beg (by decide)); have hwt2 := owns_kp hr1.want (Kp.grown hg2) (owns_apart hr1.want hr1.beg (by decide)); have hrow2 := hrow1.kp (Kp.grown hg2) (owns_apart hrow1 hr1.beg (by decide)); have hbel2 := hr1.below.grown hg2 hz1 (fun k hk => (hr1.beg.lt k hk).1); have hz2 := hbel2.size)
          | (at_builtin; refine wpList_more _ rfl (.tmp 45) (.tmp 46) rfl rfl w.heap.size _ (bytesOf g) (frameOf it.fr) rfl hall2 (some ⟨g0, 0, none⟩) (it.body.length + 9) (it.body.length + 9) rfl hfl.out hrow2.at' (by omega) hz2 ?_; intro av3 w3 hall3 hg3 _; have hbe3 := hbe2.kp (Kp.grown hg3) (owns_apart hbe2 hall2 (by decide)); have hwt3 := owns_kp hwt2 (Kp.grown hg3) (owns_apart hwt2 hall2 (by decide)); have hbel3 := hbel2.grown hg3 hz2 (fun k hk => (hall2.lt k hk).1); have hz3 := hbel3.size; obtain ⟨x3, x4⟩ := hcl.out _ hbel3)
          | (at_builtin; refine wpList_push _ rfl (.tmp 48) (.tmp 53) rfl w.heap.size _ g rfl (hwt3.alloc _) w3.heap.size 1 it rfl (FBlk.new w3 _ _) (by omega) (by simp; omega) ?_; intro wv4 w4 hwt4 hg4))
        go_roundw
        case rel =>
          have hall3' := hall3.alloc (.cells #[.int .u8 (it.k.toNat : Int), .slice it.a it.body.length it.c] 27)
          have hbe3' := hbe3.alloc (.cells #[.int .u8 (it.k.toNat : Int), .slice it.a it.body.length it.c] 27)
          have hwt3' := hwt3.alloc (.cells #[.int .u8 (it.k.toNat : Int), .slice it.a it.body.length it.c] 27)
          refine ⟨i + 1, by omega, by omega, by go_num, ?_⟩
          rw [hgy.out]
          refine ⟨?_, ?_, hwt4, ?_⟩
          · rw [bytes_snoc]; exact hall3'.kp (Kp.grown hg4) (owns_apart hall3' hwt3' (by decide))
          · rw [starts_snoc]; exact Nums.kp hbe3' (Kp.grown hg4) (owns_apart hbe3' hwt3' (by decide))
          · exact (hbel3.alloc hz3 _).grown hg4 (by simp; omega) (fun k hk => (hwt3.lt k hk).1)
        case measure => simp [intOf]; omega
      · replace hgn := hgn hb
        clear hgy
        have hb' : 65535 < it.body.length := by omega
        generalize goods its i = g at *
        go_wp2_with fail
        refine (put_long it.k it.body.length it.c it.a _ hb').mono ?_
        rintro e w1 ⟨rfl, hb1⟩
        have hr1 := hr.step hb1
        go_wp2
        go_roundw
        case rel => exact ⟨i + 1, by omega, by omega, by go_num, by rw [hgn]; exact hr1⟩
        case measure => simp [intOf]; omega
    · have hout : i = its.length ∨ (i < its.length ∧ i = 5) := by omega
      clear hin
      have hsh := goods_short its i
      have hmem : ∀ j ∈ goods its i, At w j.a j.body := fun j hj => hat.2 j (goods_mem its i j hj)
      have hsum := back_sum _ hsh
      rcases hout with rfl | ⟨hlt, rfl⟩
      · generalize goods its its.length = g at *
        go_wp2_with fail
        refine (fed_any aa sa (bytesOf g).length ca ns cs (bytesOf g) _ rfl (by omega) hca hr.all.at' hns (hsz.below hr.below)).mono ?_
        rintro e w1 ⟨ao, co, t1, m1, rfl, f1, hb1⟩
        have e1 : (takeOf (bytesOf g)).2.isNone = false := by rw [hsum]; rfl
        have e2 : (((takeOf (bytesOf g)).2.getD []).length : Int) = 0 := by rw [hsum]; rfl
        have e3 : (takeOf (bytesOf g)).1 = g.map It.fr := by rw [hsum]
        rw [e1, e2]
        have m2 : Hid (t1.map It.fr = g.map It.fr) := m1.trans e3
        have ht1 : t1.length = g.length := by have := congrArg List.length m2.out; simpa using this
        have ht2 : t1.length ≤ 4611686018427387904 := by omega
        replace ht1 := hid ht1
        clear e1 e2 e3 m1
        have f1' := f1.fat
        have hr1 := hr.step hb1
        have hw1 := owns_fat hr1.want (fun i hi => (hmem i hi).below hr1.below)
        go_wp2_with fail
        refine (samef_any ao aw t1.length g.length co cw t1 g _ rfl rfl ht2 f1' hw1 m2.out).mono ?_
        rintro e w2 ⟨rfl, hb2⟩
        have hr2 := hr1.step hb2
        clear f1 f1' hr1 hw1 hr hb1 hb2 m2 ht1 ht2
        by_cases hg0 : g = []
        · subst hg0
          rw [bytes_nil]
          go_wp2_with (go_at_call 13; refine (awake_any _).mono ?_; rintro e w3 ⟨rfl, hb3⟩)
          go_ret
          exact ⟨rfl, bnext hr2.below hb3⟩
        · have hgp : 0 < g.length := List.length_pos_iff.2 hg0
          have hbp : 0 < (bytesOf g).length := by
            rw [bytes_split g 0 hgp, List.length_append, List.length_append, frame_len]; omega
          have hd0 : (((bytesOf g).length : Int) == 0) = false := beq_eq_false_iff_ne.2 (by omega)
          go_wp2_with fail
          refine (pick_val x _ g.length _ rfl hgp (by omega)).mono ?_
          rintro e w3 ⟨rfl, rfl⟩
          have hq := pickOf_lt x g.length hgp
          generalize pickOf x g.length = q at *
          obtain ⟨gb, rfl, hcb⟩ := nums_pos hr2.beg (starts_len _) hgp
          have hxb := hcb q (by rw [starts_len]; exact hq)
          rw [starts_get g q hq] at hxb
          obtain ⟨gw, ow, rfl, hcw⟩ := (owns_fat hr2.want (fun i hi => (hmem i hi).below hr2.below)).1 hg0
          have hxw := (hcw q hq).2
          have hsplit := congrArg List.length (bytes_split g q hq)
          rw [List.length_append, List.length_append, frame_len] at hsplit
          have hLs : g[q].body.length ≤ 65535 := hsh _ (List.getElem_mem _)
          have hfl : g[q].fr.2.length = g[q].body.length := rfl
          rw [hfl] at hsplit
          have hcw2 := owns_cap hr2.want
          have hturn := take_turned g hsh q hq
          generalize hS : (bytesOf (g.take q)).length = S at *
          generalize hL : g[q].body.length = L at *
          generalize g[q].a = qa at *
          generalize g[q].c = qc at *
          have hcall : ∀ m, Calls Try.prog 23 #[.int .i64 y, .int .i64 (8 * ((L : Int) + 5))] (w3.drewN m) fun e w' => e = .returned (.int .i64 (pickOf y (8 * (L + 5)) : Int)) ∧ w' = w3.drewN m := fun m => pick_val y _ (8 * (L + 5)) (w3.drewN m) (by omega) (by omega) (by omega)
          have ht := pickOf_lt y (8 * (L + 5)) (by omega)
          generalize pickOf y (8 * (L + 5)) = t at *
          have hqi : (q : Int) < g.length := by omega
          clear hcb hcw hfl hS hL
          have hSb : S ≤ 1000000 := by omega
          replace hsplit := hid hsplit
          replace hturn := hid hturn
          replace hsum := hid hsum
          go_wp2_with fail
          go_quiet (first | (go_at_call 23; exact Calls.quiet_of_same (hcall _)))
          replace hr2 := hr2.step (below_drewN (Below.refl _ _) nq)
          clear hcall hxb hxw
          generalize w3.drewN nq = w4 at *
          obtain ⟨ga, ca', he, hca', hata⟩ := hr2.all.form_pos (by intro e; rw [e] at hbp; simp at hbp)
          simp only [Value.slice.injEq] at he
          obtain ⟨rfl, _, rfl⟩ := he
          have hdiv : (8 * ((S : Int) + 4) + t).tdiv 8 = ((S + (4 + t / 8) : Nat) : Int) := by rw [Int.tdiv_eq_ediv_of_nonneg (by omega)]; omega
          have hmod : (8 * ((S : Int) + 4) + t).tmod 8 = ((t % 8 : Nat) : Int) := by rw [Int.tmod_eq_emod_of_nonneg (by omega)]; omega
          have hjl : t / 8 < L + 5 := by omega
          have hturn2 := hturn.out (t / 8) hjl
          have hjb : S + (4 + t / 8) < (bytesOf g).length := by have := hsplit.out; omega
          generalize t / 8 = j at *
          have hr8 : t % 8 < 8 := Nat.mod_lt _ (by omega)
          generalize t % 8 = r at *
          have hxa := hr2.all.cellAt rfl (S + (4 + j)) hjb
          have hfa := hr2.all.free rfl (S + (4 + j))
          generalize hJ : S + (4 + j) = J at *
          replace hturn2 := hid hturn2
          replace hJ := hid hJ
          clear hturn
          generalize hxx : (bytesOf g).getD J 0 = xx at *
          replace hxx := hid hxx
          go_wp2_with fail
          rw [byte_xor2]
          have hY := xor_ne xx r hr8
          generalize xx ^^^ UInt8.ofNat (2 ^ r) = Y at *
          have ho5 : Own (w4.setCell ⟨ga, J, none⟩ (.int .u8 (Y.toNat : Int))) w.heap.size (.slice (some ⟨ga, 0, none⟩) (bytesOf g).length ca) ((bytesOf g).set J Y) := hr2.all.set rfl J Y
          have hb5 : Below w.heap.size w (w4.setCell ⟨ga, J, none⟩ (.int .u8 (Y.toNat : Int))) := hr2.below.setCell (p := ⟨ga, J, none⟩) hr2.all.base_le _
          have hk5 : Kp (fun k => k = ga) w4 (w4.setCell ⟨ga, J, none⟩ (.int .u8 (Y.toNat : Int))) := Kp.setCell (S := fun k => k = ga) (p := ⟨ga, J, none⟩) (Kp.refl _ _) rfl _
          have hw5 := owns_kp hr2.want hk5 (fun k hk e => owns_apart hr2.want hr2.all (by decide) k hk (by rw [e]; rfl))
          have htt := hturn2.out Y hY
          have hsl : ((bytesOf g).set J Y).length = (bytesOf g).length := List.length_set
          generalize w4.setCell ⟨ga, J, none⟩ (.int .u8 (Y.toNat : Int)) = w5 at *
          clear hk5 hr2 hxa hfa hata
          generalize (bytesOf g).set J Y = M at *
          refine (fed_any (some ⟨ga, 0, none⟩) sa (bytesOf g).length ca ns cs M _ hsl (by omega) hca ho5.at' hns (hsz.below hb5)).mono ?_
          rintro e w6 ⟨ao2, co2, t2, m2, rfl, f2, hb6⟩
          have e1 : (takeOf M).2.isNone = true := by rw [htt]; rfl
          have e2 : (((takeOf M).2.getD []).length : Int) = 0 := by rw [htt]; rfl
          rw [e1, e2]
          have m3 : Hid (t2.map It.fr = (g.take q).map It.fr) := by rw [htt] at m2; exact m2
          have ht2 : t2.length ≤ 4611686018427387904 := by
            have := congrArg List.length m3.out
            simp only [List.length_map, List.length_take] at this
            omega
          clear e1 e2 m2
          have f2' := f2.fat
          have hb7 := bnext hb5 hb6
          have hw6 := (owns_fat (owns_kp hw5 (Kp.of_below (S := fun _ => False) hb6) (fun _ _ h => h)) (fun i hi => (hmem i hi).below hb7)).take q
          have hlq : (g.take q).length = q := by rw [List.length_take]; omega
          clear f2 hw5 ho5 htt
          replace hsl := hid hsl
          go_wp2_with fail
          refine (samef_any ao2 (some ⟨gw, ow, none⟩) t2.length q co2 cw t2 (g.take q) _ rfl hlq ht2 f2' hw6 m3.out).mono ?_
          rintro e w8 ⟨rfl, hb8⟩
          go_wp2_with (go_at_call 13; refine (awake_any _).mono ?_; rintro e w9 ⟨rfl, hb9⟩)
          go_ret
          exact ⟨rfl, bnext (bnext hb7 hb8) hb9⟩
      · generalize goods its 5 = g at *
        go_wp2_with fail
        refine (fed_any aa sa (bytesOf g).length ca ns cs (bytesOf g) _ rfl (by omega) hca hr.all.at' hns (hsz.below hr.below)).mono ?_
        rintro e w1 ⟨ao, co, t1, m1, rfl, f1, hb1⟩
        have e1 : (takeOf (bytesOf g)).2.isNone = false := by rw [hsum]; rfl
        have e2 : (((takeOf (bytesOf g)).2.getD []).length : Int) = 0 := by rw [hsum]; rfl
        have e3 : (takeOf (bytesOf g)).1 = g.map It.fr := by rw [hsum]
        rw [e1, e2]
        have m2 : Hid (t1.map It.fr = g.map It.fr) := m1.trans e3
        have ht1 : t1.length = g.length := by have := congrArg List.length m2.out; simpa using this
        have ht2 : t1.length ≤ 4611686018427387904 := by omega
        replace ht1 := hid ht1
        clear e1 e2 e3 m1
        have f1' := f1.fat
        have hr1 := hr.step hb1
        have hw1 := owns_fat hr1.want (fun i hi => (hmem i hi).below hr1.below)
        go_wp2_with fail
        refine (samef_any ao aw t1.length g.length co cw t1 g _ rfl rfl ht2 f1' hw1 m2.out).mono ?_
        rintro e w2 ⟨rfl, hb2⟩
        have hr2 := hr1.step hb2
        clear f1 f1' hr1 hw1 hr hb1 hb2 m2 ht1 ht2
        by_cases hg0 : g = []
        · subst hg0
          rw [bytes_nil]
          go_wp2_with (go_at_call 13; refine (awake_any _).mono ?_; rintro e w3 ⟨rfl, hb3⟩)
          go_ret
          exact ⟨rfl, bnext hr2.below hb3⟩
        · have hgp : 0 < g.length := List.length_pos_iff.2 hg0
          have hbp : 0 < (bytesOf g).length := by
            rw [bytes_split g 0 hgp, List.length_append, List.length_append, frame_len]; omega
          have hd0 : (((bytesOf g).length : Int) == 0) = false := beq_eq_false_iff_ne.2 (by omega)
          go_wp2_with fail
          refine (pick_val x _ g.length _ rfl hgp (by omega)).mono ?_
          rintro e w3 ⟨rfl, rfl⟩
          have hq := pickOf_lt x g.length hgp
          generalize pickOf x g.length = q at *
          obtain ⟨gb, rfl, hcb⟩ := nums_pos hr2.beg (starts_len _) hgp
          have hxb := hcb q (by rw [starts_len]; exact hq)
          rw [starts_get g q hq] at hxb
          obtain ⟨gw, ow, rfl, hcw⟩ := (owns_fat hr2.want (fun i hi => (hmem i hi).below hr2.below)).1 hg0
          have hxw := (hcw q hq).2
          have hsplit := congrArg List.length (bytes_split g q hq)
          rw [List.length_append, List.length_append, frame_len] at hsplit
          have hLs : g[q].body.length ≤ 65535 := hsh _ (List.getElem_mem _)
          have hfl : g[q].fr.2.length = g[q].body.length := rfl
          rw [hfl] at hsplit
          have hcw2 := owns_cap hr2.want
          have hturn := take_turned g hsh q hq
          generalize hS : (bytesOf (g.take q)).length = S at *
          generalize hL : g[q].body.length = L at *
          generalize g[q].a = qa at *
          generalize g[q].c = qc at *
          have hcall : ∀ m, Calls Try.prog 23 #[.int .i64 y, .int .i64 (8 * ((L : Int) + 5))] (w3.drewN m) fun e w' => e = .returned (.int .i64 (pickOf y (8 * (L + 5)) : Int)) ∧ w' = w3.drewN m := fun m => pick_val y _ (8 * (L + 5)) (w3.drewN m) (by omega) (by omega) (by omega)
          have ht := pickOf_lt y (8 * (L + 5)) (by omega)
          generalize pickOf y (8 * (L + 5)) = t at *
          have hqi : (q : Int) < g.length := by omega
          clear hcb hcw hfl hS hL
          have hSb : S ≤ 1000000 := by omega
          replace hsplit := hid hsplit
          replace hturn := hid hturn
          replace hsum := hid hsum
          go_wp2_with fail
          go_quiet (first | (go_at_call 23; exact Calls.quiet_of_same (hcall _)))
          replace hr2 := hr2.step (below_drewN (Below.refl _ _) nq)
          clear hcall hxb hxw
          generalize w3.drewN nq = w4 at *
          obtain ⟨ga, ca', he, hca', hata⟩ := hr2.all.form_pos (by intro e; rw [e] at hbp; simp at hbp)
          simp only [Value.slice.injEq] at he
          obtain ⟨rfl, _, rfl⟩ := he
          have hdiv : (8 * ((S : Int) + 4) + t).tdiv 8 = ((S + (4 + t / 8) : Nat) : Int) := by rw [Int.tdiv_eq_ediv_of_nonneg (by omega)]; omega
          have hmod : (8 * ((S : Int) + 4) + t).tmod 8 = ((t % 8 : Nat) : Int) := by rw [Int.tmod_eq_emod_of_nonneg (by omega)]; omega
          have hjl : t / 8 < L + 5 := by omega
          have hturn2 := hturn.out (t / 8) hjl
          have hjb : S + (4 + t / 8) < (bytesOf g).length := by have := hsplit.out; omega
          generalize t / 8 = j at *
          have hr8 : t % 8 < 8 := Nat.mod_lt _ (by omega)
          generalize t % 8 = r at *
          have hxa := hr2.all.cellAt rfl (S + (4 + j)) hjb
          have hfa := hr2.all.free rfl (S + (4 + j))
          generalize hJ : S + (4 + j) = J at *
          replace hturn2 := hid hturn2
          replace hJ := hid hJ
          clear hturn
          generalize hxx : (bytesOf g).getD J 0 = xx at *
          replace hxx := hid hxx
          go_wp2_with fail
          rw [byte_xor2]
          have hY := xor_ne xx r hr8
          generalize xx ^^^ UInt8.ofNat (2 ^ r) = Y at *
          have ho5 : Own (w4.setCell ⟨ga, J, none⟩ (.int .u8 (Y.toNat : Int))) w.heap.size (.slice (some ⟨ga, 0, none⟩) (bytesOf g).length ca) ((bytesOf g).set J Y) := hr2.all.set rfl J Y
          have hb5 : Below w.heap.size w (w4.setCell ⟨ga, J, none⟩ (.int .u8 (Y.toNat : Int))) := hr2.below.setCell (p := ⟨ga, J, none⟩) hr2.all.base_le _
          have hk5 : Kp (fun k => k = ga) w4 (w4.setCell ⟨ga, J, none⟩ (.int .u8 (Y.toNat : Int))) := Kp.setCell (S := fun k => k = ga) (p := ⟨ga, J, none⟩) (Kp.refl _ _) rfl _
          have hw5 := owns_kp hr2.want hk5 (fun k hk e => owns_apart hr2.want hr2.all (by decide) k hk (by rw [e]; rfl))
          have htt := hturn2.out Y hY
          have hsl : ((bytesOf g).set J Y).length = (bytesOf g).length := List.length_set
          generalize w4.setCell ⟨ga, J, none⟩ (.int .u8 (Y.toNat : Int)) = w5 at *
          clear hk5 hr2 hxa hfa hata
          generalize (bytesOf g).set J Y = M at *
          refine (fed_any (some ⟨ga, 0, none⟩) sa (bytesOf g).length ca ns cs M _ hsl (by omega) hca ho5.at' hns (hsz.below hb5)).mono ?_
          rintro e w6 ⟨ao2, co2, t2, m2, rfl, f2, hb6⟩
          have e1 : (takeOf M).2.isNone = true := by rw [htt]; rfl
          have e2 : (((takeOf M).2.getD []).length : Int) = 0 := by rw [htt]; rfl
          rw [e1, e2]
          have m3 : Hid (t2.map It.fr = (g.take q).map It.fr) := by rw [htt] at m2; exact m2
          have ht2 : t2.length ≤ 4611686018427387904 := by
            have := congrArg List.length m3.out
            simp only [List.length_map, List.length_take] at this
            omega
          clear e1 e2 m2
          have f2' := f2.fat
          have hb7 := bnext hb5 hb6
          have hw6 := (owns_fat (owns_kp hw5 (Kp.of_below (S := fun _ => False) hb6) (fun _ _ h => h)) (fun i hi => (hmem i hi).below hb7)).take q
          have hlq : (g.take q).length = q := by rw [List.length_take]; omega
          clear f2 hw5 ho5 htt
          replace hsl := hid hsl
          go_wp2_with fail
          refine (samef_any ao2 (some ⟨gw, ow, none⟩) t2.length q co2 cw t2 (g.take q) _ rfl hlq ht2 f2' hw6 m3.out).mono ?_
          rintro e w8 ⟨rfl, hb8⟩
          go_wp2_with (go_at_call 13; refine (awake_any _).mono ?_; rintro e w9 ⟨rfl, hb9⟩)
          go_ret
          exact ⟨rfl, bnext (bnext hb7 hb8) hb9⟩
end Go.Proofs.Ytdhafnmahpafaaa
