/- The text of a run; the closure that takes it. -/
import Derived.Test.YtomdghodbkhkaaaDoorCut
import Derived.Test.YtomdghodbkhkaaaDoorLst
import Derived.Lib.SmallJoins
import Derived.Deep.RegionLaw
namespace Go.Proofs.YtomdghodbkhkaaaDoor
open Go.RowKit Go.Sort
set_option linter.unusedVariables false
set_option linter.unusedSimpArgs false

/-- The library's table of powers of ten. -/
def Tb (w : World) : Prop := Lib.TabIs Tryd.prog w "internal/strconv.uint64pow10" .u64 Lib.pow10Tab
theorem tb_named : Tryd.prog.globalNamed "internal/strconv.uint64pow10" = some 1 := by kernel_rfl
theorem Tb.lt {w : World} (h : Tb w) : 1 < w.heap.size := by
  unfold Tb Lib.TabIs World.var? at h
  rw [tb_named] at h
  simp only [Option.bind_some] at h
  rcases Nat.lt_or_ge 1 w.heap.size with h' | h'
  · exact h'
  · rw [Array.getElem?_eq_none h'] at h; cases h
theorem Tb.kp {S : Nat → Prop} {w w' : World} (h : Tb w) (hk : Kp S w w') (hs : ¬ S 1) : Tb w' := by
  have hl := h.lt
  unfold Tb Lib.TabIs World.var? at h ⊢
  rw [tb_named] at h ⊢
  simp only [Option.bind_some] at h ⊢
  rw [hk.block 1 hl hs]
  exact h
theorem Tb.below {w w' : World} (h : Tb w) (hb : Below w.heap.size w w') : Tb w' := h.kp (S := fun _ => False) (Kp.of_below hb) (fun h => h)
theorem below_grow (w : World) (k : Nat) (os : Array Obj) : Below w.heap.size w (grow (w.drewN k) os) :=
  ⟨rfl, rfl, rfl, by simp [grow], fun i hi => heap_grow_old (w.drewN k) os (show i < (w.drewN k).heap.size from hi)⟩

theorem itoa_any (n : Nat) (hn : n ≤ 9999) (w : World) (ht : Tb w) : Calls Tryd.prog 23 #[.int .i64 (n : Int)] w fun e w' => e = .returned (Str (dig n)) ∧ Below w.heap.size w w' := by
  refine (itoa_lib n (by omega) (by omega) w ht).mono ?_
  rintro e w' ⟨rfl, k, os, rfl⟩
  rw [Lib.itoa_nonneg, dig_dec n (by omega)]
  exact ⟨rfl, below_grow _ _ _⟩

set_option maxRecDepth 100000 in
set_option maxHeartbeats 1600000 in
theorem textof_any (r : Run) (h : okR r) (w : World) (ht : Tb w) : Calls Tryd.prog 14 #[.agg (rc r).toArray] w fun e w' => e = .returned (Str (textR r)) ∧ Below w.heap.size w w' := by
  obtain ⟨a, b, s⟩ := r
  obtain ⟨h1, h2, h3, h4, h5⟩ := h
  simp only at h1 h2 h3 h4 h5
  have bl := below_lit w (.cells #[.int .i64 (a : Int), .int .i64 (b : Int), .int .i64 (s : Int)] 50)
  obtain ⟨X, hX⟩ : ∃ X : ByteArray, X = ⟨(dig a).toArray⟩ := ⟨_, rfl⟩
  obtain ⟨Y, hY⟩ : ∃ Y : ByteArray, Y = ⟨(dig b).toArray⟩ := ⟨_, rfl⟩
  obtain ⟨Z, hZ⟩ : ∃ Z : ByteArray, Z = ⟨(dig s).toArray⟩ := ⟨_, rfl⟩
  have lx : X.size ≤ 4 := by rw [hX]; exact dig_len (n := a) (by omega)
  have ly : Y.size ≤ 4 := by rw [hY]; exact dig_len (n := b) (by omega)
  have lz : Z.size ≤ 4 := by rw [hZ]; exact dig_len (n := s) (by omega)
  have kx : ∀ w, Tb w → Calls Tryd.prog 23 #[.int .i64 (a : Int)] w fun e w' => e = .returned (.string X) ∧ Below w.heap.size w w' := fun w ht => by rw [hX]; exact itoa_any a (by omega) w ht
  have ky : ∀ w, Tb w → Calls Tryd.prog 23 #[.int .i64 (b : Int)] w fun e w' => e = .returned (.string Y) ∧ Below w.heap.size w w' := fun w ht => by rw [hY]; exact itoa_any b (by omega) w ht
  have kz : ∀ w, Tb w → Calls Tryd.prog 23 #[.int .i64 (s : Int)] w fun e w' => e = .returned (.string Z) ∧ Below w.heap.size w w' := fun w ht => by rw [hZ]; exact itoa_any s (by omega) w ht
  have e1 : textR (a, b, s) = dig a ++ (if a < b then 45 :: dig b else []) ++ (if 1 < s then 58 :: dig s else []) := rfl
  have v0 := lit_cell w 50 #[.int .i64 (a : Int), .int .i64 (b : Int), .int .i64 (s : Int)] 0 _ rfl
  have v1 := lit_cell w 50 #[.int .i64 (a : Int), .int .i64 (b : Int), .int .i64 (s : Int)] 1 _ rfl
  have v2 := lit_cell w 50 #[.int .i64 (a : Int), .int .i64 (b : Int), .int .i64 (s : Int)] 2 _ rfl
  have t0 := hid (ht.below bl)
  replace ht := hid ht
  replace hX := hid hX
  replace hY := hid hY
  replace hZ := hid hZ
  by_cases hab : a < b
  · have d1 : decide (((a : Nat) : Int) < ((b : Nat) : Int)) = true := decide_eq_true (by omega)
    by_cases hs : 1 < s
    · have d2 : decide ((1 : Int) < ((s : Nat) : Int)) = true := decide_eq_true (by omega)
      have hr := hid (show textR (a, b, s) = dig a ++ 45 :: dig b ++ 58 :: dig s by rw [e1, if_pos hab, if_pos hs])
      clear e1 h5
      generalize textR (a, b, s) = R at *
      simp only [rc]
      go_enter Tryd.func14, Tryd.ntmps14
      go_wp2_with fail
      refine (kx _ t0.out).mono ?_
      rintro e w1 ⟨rfl, hb1⟩
      have t1 := hid (t0.out.below hb1)
      have v0' := stay hb1 v0
      have v1' := stay hb1 v1
      have v2' := stay hb1 v2
      go_wp2_with fail
      refine (ky _ t1.out).mono ?_
      rintro e w2 ⟨rfl, hb2⟩
      have t2 := hid (t1.out.below hb2)
      have v2'' := stay hb2 v2'
      go_wp2_with fail
      refine (kz _ t2.out).mono ?_
      rintro e w3 ⟨rfl, hb3⟩
      go_wp2
      go_ret
      rw [hr.out]
      refine ⟨?_, bnext (bnext (bnext bl hb1) hb2) hb3⟩
      rw [hX.out, hY.out, hZ.out]
      show Ending.returned (.string ((⟨(dig a).toArray⟩ : ByteArray) ++ (⟨[45].toArray⟩ ++ ⟨(dig b).toArray⟩) ++ (⟨[58].toArray⟩ ++ ⟨(dig s).toArray⟩))) = _
      rw [str_add, str_add, str_add, str_add]
      simp [Str]
    · have d2 : decide ((1 : Int) < ((s : Nat) : Int)) = false := decide_eq_false (by omega)
      have hr := hid (show textR (a, b, s) = dig a ++ 45 :: dig b by rw [e1, if_pos hab, if_neg hs, List.append_nil])
      clear e1 h5
      generalize textR (a, b, s) = R at *
      simp only [rc]
      go_enter Tryd.func14, Tryd.ntmps14
      go_wp2_with fail
      refine (kx _ t0.out).mono ?_
      rintro e w1 ⟨rfl, hb1⟩
      have t1 := hid (t0.out.below hb1)
      have v0' := stay hb1 v0
      have v1' := stay hb1 v1
      have v2' := stay hb1 v2
      go_wp2_with fail
      refine (ky _ t1.out).mono ?_
      rintro e w2 ⟨rfl, hb2⟩
      have v2'' := stay hb2 v2'
      go_wp2
      go_ret
      rw [hr.out]
      refine ⟨?_, bnext (bnext bl hb1) hb2⟩
      rw [hX.out, hY.out]
      show Ending.returned (.string ((⟨(dig a).toArray⟩ : ByteArray) ++ (⟨[45].toArray⟩ ++ ⟨(dig b).toArray⟩))) = _
      rw [str_add, str_add]
      simp [Str]
  · have d1 : decide (((a : Nat) : Int) < ((b : Nat) : Int)) = false := decide_eq_false (by omega)
    have hs1 : s = 1 := h5 (by omega)
    subst hs1
    have hr := hid (show textR (a, b, 1) = dig a by rw [e1, if_neg hab, if_neg (by omega), List.append_nil, List.append_nil])
    clear e1 h5
    generalize textR (a, b, 1) = R at *
    simp only [rc]
    go_enter Tryd.func14, Tryd.ntmps14
    go_wp2_with fail
    refine (kx _ t0.out).mono ?_
    rintro e w1 ⟨rfl, hb1⟩
    have v0' := stay hb1 v0
    have v1' := stay hb1 v1
    have v2' := stay hb1 v2
    go_wp2
    go_ret
    rw [hr.out]
    refine ⟨?_, bnext bl hb1⟩
    rw [hX.out]
    simp [Str]
end Go.Proofs.YtomdghodbkhkaaaDoor
