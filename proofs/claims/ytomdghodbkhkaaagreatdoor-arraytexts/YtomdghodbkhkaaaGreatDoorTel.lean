/- The text of a run; the closure that takes it. -/
import Derived.Test.YtomdghodbkhkaaaGreatDoorCut
import Derived.Test.YtomdghodbkhkaaaGreatDoorLst
import Derived.Lib.SmallJoins
import Derived.Deep.RegionLaw
namespace Go.Proofs.YtomdghodbkhkaaaGreatDoor
open Go.RowKit Go.Sort
set_option linter.unusedVariables false
set_option linter.unusedSimpArgs false

/-- The library's table of powers of ten. -/
def Tb (w : World) : Prop := Lib.TabIs Tryz.prog w "internal/strconv.uint64pow10" .u64 Lib.pow10Tab
theorem tb_named : Tryz.prog.globalNamed "internal/strconv.uint64pow10" = some 1 := by kernel_rfl
theorem Tb.lt {w : World} (h : Tb w) : 1 < w.heap.size := by
  unfold Tb Lib.TabIs World.var? at h
  rw [tb_named] at h
  simp only [Option.bind_some] at h
  rcases Nat.lt_or_ge 1 w.heap.size with h' | h'
  · exact h'
  · rw [Array.getElem?_eq_none h'] at h; cases h
theorem Tb.kp {S : Nat → Prop} {w w' : World} (h : Tb w) (hk : Kp S w w') (hs : ¬ S 1) : Tb w' := by
  have hl := h.lt
  unfold Tb Lib.TabIs World.var? at h ⊢
  rw [tb_named] at h ⊢
  simp only [Option.bind_some] at h ⊢
  rw [hk.block 1 hl hs]
  exact h
theorem Tb.below {w w' : World} (h : Tb w) (hb : Below w.heap.size w w') : Tb w' := h.kp (S := fun _ => False) (Kp.of_below hb) (fun h => h)
theorem below_grow (w : World) (k : Nat) (os : Array Obj) : Below w.heap.size w (grow (w.drewN k) os) :=
  ⟨rfl, rfl, rfl, by simp [grow], fun i hi => heap_grow_old (w.drewN k) os (show i < (w.drewN k).heap.size from hi)⟩

theorem itoa_any (n : Nat) (hn : n ≤ 9999) (w : World) (ht : Tb w) : Calls Tryz.prog 43 #[.int .i64 (n : Int)] w fun e w' => e = .returned (Str (dig n)) ∧ Below w.heap.size w w' := by
  refine (itoa_lib n (by omega) (by omega) w ht).mono ?_
  rintro e w' ⟨rfl, k, os, rfl⟩
  rw [Lib.itoa_nonneg, dig_dec n (by omega)]
  exact ⟨rfl, below_grow _ _ _⟩

set_option maxRecDepth 100000 in
set_option maxHeartbeats 1600000 in
theorem textof_any (r : Run) (h : okR r) (w : World) (ht : Tb w) : Calls Tryz.prog 25 #[.agg (rc r).toArray] w fun e w' => e = .returned (Str (textR r)) ∧ Below w.heap.size w w' := by
  obtain ⟨a, b, s⟩ := r
  obtain ⟨h1, h2, h3, h4, h5⟩ := h
  simp only at h1 h2 h3 h4 h5
  have bl := below_lit w (.cells #[.int .i64 (a : Int), .int .i64 (b : Int), .int .i64 (s : Int)] 64)
  obtain ⟨X, hX⟩ : ∃ X : ByteArray, X = ⟨(dig a).toArray⟩ := ⟨_, rfl⟩
  obtain ⟨Y, hY⟩ : ∃ Y : ByteArray, Y = ⟨(dig b).toArray⟩ := ⟨_, rfl⟩
  obtain ⟨Z, hZ⟩ : ∃ Z : ByteArray, Z = ⟨(dig s).toArray⟩ := ⟨_, rfl⟩
  have lx : X.size ≤ 4 := by rw [hX]; exact dig_len (n := a) (by omega)
  have ly : Y.size ≤ 4 := by rw [hY]; exact dig_len (n := b) (by omega)
  have lz : Z.size ≤ 4 := by rw [hZ]; exact dig_len (n := s) (by omega)
  have kx : ∀ w, Tb w → Calls Tryz.prog 43 #[.int .i64 (a : Int)] w fun e w' => e = .returned (.string X) ∧ Below w.heap.size w w' := fun w ht => by rw [hX]; exact itoa_any a (by omega) w ht
  have ky : ∀ w, Tb w → Calls Tryz.prog 43 #[.int .i64 (b : Int)] w fun e w' => e = .returned (.string Y) ∧ Below w.heap.size w w' := fun w ht => by rw [hY]; exact itoa_any b (by omega) w ht
  have kz : ∀ w, Tb w → Calls Tryz.prog 43 #[.int .i64 (s : Int)] w fun e w' => e = .returned (.string Z) ∧ Below w.heap.size w w' := fun w ht => by rw [hZ]; exact itoa_any s (by omega) w ht
  have e1 : textR (a, b, s) = dig a ++ (if a < b then 45 :: dig b else []) ++ (if 1 < s then 58 :: dig s else []) := rfl
  have v0 := lit_cell w 64 #[.int .i64 (a : Int), .int .i64 (b : Int), .int .i64 (s : Int)] 0 _ rfl
  have v1 := lit_cell w 64 #[.int .i64 (a : Int), .int .i64 (b : Int), .int .i64 (s : Int)] 1 _ rfl
  have v2 := lit_cell w 64 #[.int .i64 (a : Int), .int .i64 (b : Int), .int .i64 (s : Int)] 2 _ rfl
  have t0 := hid (ht.below bl)
  replace ht := hid ht
  replace hX := hid hX
  replace hY := hid hY
  replace hZ := hid hZ
  by_cases hab : a < b
  · have d1 : decide (((a : Nat) : Int) < ((b : Nat) : Int)) = true := decide_eq_true (by omega)
    by_cases hs : 1 < s
    · have d2 : decide ((1 : Int) < ((s : Nat) : Int)) = true := decide_eq_true (by omega)
      have hr := hid (show textR (a, b, s) = dig a ++ 45 :: dig b ++ 58 :: dig s by rw [e1, if_pos hab, if_pos hs])
      clear e1 h5
      generalize textR (a, b, s) = R at *
      simp only [rc]
      go_enter Tryz.func25, Tryz.ntmps25
      go_wp2_with fail
      refine (kx _ t0.out).mono ?_
      rintro e w1 ⟨rfl, hb1⟩
      have t1 := hid (t0.out.below hb1)
      have v0' := stay hb1 v0
      have v1' := stay hb1 v1
      have v2' := stay hb1 v2
      go_wp2_with fail
      refine (ky _ t1.out).mono ?_
      rintro e w2 ⟨rfl, hb2⟩
      have t2 := hid (t1.out.below hb2)
      have v2'' := stay hb2 v2'
      go_wp2_with fail
      refine (kz _ t2.out).mono ?_
      rintro e w3 ⟨rfl, hb3⟩
      go_wp2
      go_ret
      rw [hr.out]
      refine ⟨?_, bnext (bnext (bnext bl hb1) hb2) hb3⟩
      rw [hX.out, hY.out, hZ.out]
      show Ending.returned (.string ((⟨(dig a).toArray⟩ : ByteArray) ++ (⟨[45].toArray⟩ ++ ⟨(dig b).toArray⟩) ++ (⟨[58].toArray⟩ ++ ⟨(dig s).toArray⟩))) = _
      rw [str_add, str_add, str_add, str_add]
      simp [Str]
    · have d2 : decide ((1 : Int) < ((s : Nat) : Int)) = false := decide_eq_false (by omega)
      have hr := hid (show textR (a, b, s) = dig a ++ 45 :: dig b by rw [e1, if_pos hab, if_neg hs, List.append_nil])
      clear e1 h5
      generalize textR (a, b, s) = R at *
      simp only [rc]
      go_enter Tryz.func25, Tryz.ntmps25
      go_wp2_with fail
      refine (kx _ t0.out).mono ?_
      rintro e w1 ⟨rfl, hb1⟩
      have t1 := hid (t0.out.below hb1)
      have v0' := stay hb1 v0
      have v1' := stay hb1 v1
      have v2' := stay hb1 v2
      go_wp2_with fail
      refine (ky _ t1.out).mono ?_
      rintro e w2 ⟨rfl, hb2⟩
      have v2'' := stay hb2 v2'
      go_wp2
      go_ret
      rw [hr.out]
      refine ⟨?_, bnext (bnext bl hb1) hb2⟩
      rw [hX.out, hY.out]
      show Ending.returned (.string ((⟨(dig a).toArray⟩ : ByteArray) ++ (⟨[45].toArray⟩ ++ ⟨(dig b).toArray⟩))) = _
      rw [str_add, str_add]
      simp [Str]
  · have d1 : decide (((a : Nat) : Int) < ((b : Nat) : Int)) = false := decide_eq_false (by omega)
    have hs1 : s = 1 := h5 (by omega)
    subst hs1
    have hr := hid (show textR (a, b, 1) = dig a by rw [e1, if_neg hab, if_neg (by omega), List.append_nil, List.append_nil])
    clear e1 h5
    generalize textR (a, b, 1) = R at *
    simp only [rc]
    go_enter Tryz.func25, Tryz.ntmps25
    go_wp2_with fail
    refine (kx _ t0.out).mono ?_
    rintro e w1 ⟨rfl, hb1⟩
    have v0' := stay hb1 v0
    have v1' := stay hb1 v1
    have v2' := stay hb1 v2
    go_wp2
    go_ret
    rw [hr.out]
    refine ⟨?_, bnext bl hb1⟩
    rw [hX.out]
    simp [Str]
end Go.Proofs.YtomdghodbkhkaaaGreatDoor

namespace Go.Proofs.YtomdghodbkhkaaaGreatDoor
open Go.RowKit
set_option linter.unusedVariables false
set_option linter.unusedSimpArgs false

theorem info50q : (Tryz.prog.info? 64).map (·.size) = some 3 := by kernel_rfl
set_option maxRecDepth 100000 in
set_option maxHeartbeats 1600000 in
theorem tell_any (p : Nat) (r : Run) (v : Value) (T : List (List UInt8)) (h : okR r) (w : World) (ht : Tb w) (hp : TBlk 57 w p v) (ho : SOwn w (p + 1) v T) (hT : T.length ≤ 40) :
    Calls Tryz.prog 24 #[.agg (rc r).toArray, ptr p] w fun e w' => e = .returned (.tuple #[]) ∧ ∃ v', TBlk 57 w' p v' ∧ SOwn w' (p + 1) v' (T ++ [textR r]) ∧ Kp (fun k => p ≤ k) w w' := by
  obtain ⟨i0, hi0, hz0, hz1, hz2⟩ := info_parts info9
  obtain ⟨x, hx⟩ : ∃ x, x = textR r := ⟨_, rfl⟩
  have kt := fun w ht => textof_any r h w ht
  rw [← hx] at kt ⊢
  obtain ⟨X, hX⟩ : ∃ X : ByteArray, Str x = .string X := ⟨_, rfl⟩
  rw [hX] at kt
  obtain ⟨a, b, s⟩ := r
  simp only [rc] at kt ⊢
  have bl0 := below_lit w (.cells #[.int .i64 (a : Int), .int .i64 (b : Int), .int .i64 (s : Int)] 64)
  have v0 := lit_cell w 64 #[.int .i64 (a : Int), .int .i64 (b : Int), .int .i64 (s : Int)] 0 _ rfl
  have v1 := lit_cell w 64 #[.int .i64 (a : Int), .int .i64 (b : Int), .int .i64 (s : Int)] 1 _ rfl
  have v2 := lit_cell w 64 #[.int .i64 (a : Int), .int .i64 (b : Int), .int .i64 (s : Int)] 2 _ rfl
  obtain ⟨W0, hW0⟩ : ∃ W0, W0 = w.alloc (.cells #[.int .i64 (a : Int), .int .i64 (b : Int), .int .i64 (s : Int)] 64) := ⟨_, rfl⟩
  rw [← hW0] at bl0 v0 v1 v2
  have bd : Below W0.heap.size W0 W0.drew := (Below.refl _ W0).drew
  have B1 := bnext bl0 bd
  have hp0 := hp.below bl0
  have hp1 := hp.below B1
  have c0 := hp0.cell
  have c1 := hp1.cell
  have w0 : W0.drew.cell? ⟨w.heap.size, 0, none⟩ = some (.int .i64 (a : Int)) := v0
  have w1 : W0.drew.cell? ⟨w.heap.size, 1, none⟩ = some (.int .i64 (b : Int)) := v1
  have w2 : W0.drew.cell? ⟨w.heap.size, 2, none⟩ = some (.int .i64 (s : Int)) := v2
  have hlt := hp.lt
  have lt1 : w.heap.size < W0.heap.size := World.block_lt_of_cell? _ _ v0
  have t1 := ht.below B1
  have hcp := kt W0.drew t1
  have hone : ∀ u ∈ [Value.string X], u.oneCell' = true := by intro u hu; simp at hu; subst hu; rfl
  have hown : ∀ k, v.ownBlock = some k → p + 1 ≤ k := fun k hk => (World.ownsRow.lt ho k hk).1
  have ho1 := owns_below ho B1
  replace ht := hid ht
  replace hX := hid hX
  replace hx := hid hx
  replace kt := hid kt
  replace t1 := hid t1
  replace hp := hid hp
  replace hp0 := hid hp0
  replace hp1 := hid hp1
  replace ho := hid ho
  go_enter Tryz.func24, Tryz.ntmps24
  go_wp2_with fail
  rw [← hW0]
  replace hW0 := hid hW0
  go_region_law (first
    | (refine step_call rfl 25 _ _ rfl Tryz.f25 Tryz.func25 (by kernel_rfl) (by kernel_rfl) #[.agg #[.int .i64 (a : Int), .int .i64 (b : Int), .int .i64 (s : Int)]] (by simp [Act.eval, Act.put]) hcp ?_; rintro e w5 ⟨rfl, hb5⟩; have hp5 := hp1.out.below hb5; have c5 := hp5.cell; have ho5 := owns_below ho1 hb5; have bl5 := below_lit w5 (.cells #[.string X] 9); have hp6 := hp5.below bl5; have c6 := hp6.cell; have hcl := cat_lit w5 9 [.string X] #[.string X] rfl; have ho6 := owns_below ho5 bl5; have B6 := bnext hb5 bl5; have hbase : p + 1 ≤ (w5.alloc (.cells #[.string X] 9)).heap.size := (Nat.le_trans hlt (Nat.le_trans B1.size B6.size)); replace hp5 := hid hp5; replace hp6 := hid hp6; refine ⟨_, rfl, ?_⟩)
    | (refine step_cat rfl (.tmp 3) (.tmp 6) 57 rfl (p + 1) 9 i0 _ 1 16 Tryz.underlying57 hi0 hz0 hz1 hz2 rfl (by omega) v T.length (T.map Str) rfl ho6 (some ⟨w5.heap.size, 0, none⟩) 1 1 [.string X] rfl rfl hcl hone (by unfold maxLen; omega) (by omega) hbase ?_; intro v7 w7 hr7 hg7 hv7; obtain ⟨a7, k7, e7, hk7⟩ := owns_form hr7; subst e7; have hp7 : TBlk 57 w7 p v := hp6.out.kp (Kp.grown hg7) (fun h => by have := hown _ h; omega); have c7 := hp7.cell; have f7 := hp7.free))
  all_goals
    have hfin : ∃ v', TBlk 57 (w7.setCell ⟨p, 0, none⟩ (.slice a7 (T.length + 1) k7)) p v' ∧ SOwn (w7.setCell ⟨p, 0, none⟩ (.slice a7 (T.length + 1) k7)) (p + 1) v' (T ++ [x]) ∧ Kp (fun k => p ≤ k) w (w7.setCell ⟨p, 0, none⟩ (.slice a7 (T.length + 1) k7)) := by
      refine ⟨_, hp7.set _, ?_, ?_⟩
      · have hk : Kp (fun k => k = p) w7 (w7.setCell ⟨p, 0, none⟩ (.slice a7 (T.length + 1) k7)) := Kp.setCell (S := fun k => k = p) (Kp.refl _ _) (p := ⟨p, 0, none⟩) rfl _
        have h1 := owns_kp hr7 hk (fun k hk e => by have := (World.ownsRow.lt hr7 k hk).1; omega)
        unfold SOwn
        rw [← hX.out] at h1
        simpa using h1
      · refine Kp.setCell (S := fun k => p ≤ k) (p := ⟨p, 0, none⟩) ?_ (Nat.le_refl p) _
        refine ((Kp.of_below (bnext B1 B6)).next (Kp.grown hg7) fun i _ h => ?_)
        have := hown _ h
        omega
    replace hfin := hid hfin
    go_wp2
    go_end0
    exact ⟨rfl, hfin.out⟩
end Go.Proofs.YtomdghodbkhkaaaGreatDoor
