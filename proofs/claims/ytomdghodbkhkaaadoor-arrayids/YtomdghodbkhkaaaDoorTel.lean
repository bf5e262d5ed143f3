/- The closure that takes a run's text; isEven. -/
import Derived.Test.YtomdghodbkhkaaaDoorTxt
namespace Go.Proofs.YtomdghodbkhkaaaDoor
open Go.RowKit
set_option linter.unusedVariables false
set_option linter.unusedSimpArgs false

theorem info50q : (Tryd.prog.info? 50).map (·.size) = some 3 := by kernel_rfl
set_option maxRecDepth 100000 in
set_option maxHeartbeats 1600000 in
theorem tell_any (p : Nat) (r : Run) (v : Value) (T : List (List UInt8)) (h : okR r) (w : World) (ht : Tb w) (hp : TBlk 47 w p v) (ho : SOwn w (p + 1) v T) (hT : T.length ≤ 40) :
    Calls Tryd.prog 13 #[.agg (rc r).toArray, ptr p] w fun e w' => e = .returned (.tuple #[]) ∧ ∃ v', TBlk 47 w' p v' ∧ SOwn w' (p + 1) v' (T ++ [textR r]) ∧ Kp (fun k => p ≤ k) w w' := by
  obtain ⟨i0, hi0, hz0, hz1, hz2⟩ := info_parts info9
  obtain ⟨x, hx⟩ : ∃ x, x = textR r := ⟨_, rfl⟩
  have kt := fun w ht => textof_any r h w ht
  rw [← hx] at kt ⊢
  obtain ⟨X, hX⟩ : ∃ X : ByteArray, Str x = .string X := ⟨_, rfl⟩
  rw [hX] at kt
  obtain ⟨a, b, s⟩ := r
  simp only [rc] at kt ⊢
  have bl0 := below_lit w (.cells #[.int .i64 (a : Int), .int .i64 (b : Int), .int .i64 (s : Int)] 50)
  have v0 := lit_cell w 50 #[.int .i64 (a : Int), .int .i64 (b : Int), .int .i64 (s : Int)] 0 _ rfl
  have v1 := lit_cell w 50 #[.int .i64 (a : Int), .int .i64 (b : Int), .int .i64 (s : Int)] 1 _ rfl
  have v2 := lit_cell w 50 #[.int .i64 (a : Int), .int .i64 (b : Int), .int .i64 (s : Int)] 2 _ rfl
  obtain ⟨W0, hW0⟩ : ∃ W0, W0 = w.alloc (.cells #[.int .i64 (a : Int), .int .i64 (b : Int), .int .i64 (s : Int)] 50) := ⟨_, rfl⟩
  rw [← hW0] at bl0 v0 v1 v2
  have bd : Below W0.heap.size W0 W0.drew := (Below.refl _ W0).drew
  have B1 := bnext bl0 bd
  have hp0 := hp.below bl0
  have hp1 := hp.below B1
  have c0 := hp0.cell
  have c1 := hp1.cell
  have w0 : W0.drew.cell? ⟨w.heap.size, 0, none⟩ = some (.int .i64 (a : Int)) := v0
  have w1 : W0.drew.cell? ⟨w.heap.size, 1, none⟩ = some (.int .i64 (b : Int)) := v1
  have w2 : W0.drew.cell? ⟨w.heap.size, 2, none⟩ = some (.int .i64 (s : Int)) := v2
  have hlt := hp.lt
  have lt1 : w.heap.size < W0.heap.size := World.block_lt_of_cell? _ _ v0
  have t1 := ht.below B1
  have hcp := kt W0.drew t1
  have hone : ∀ u ∈ [Value.string X], u.oneCell' = true := by intro u hu; simp at hu; subst hu; rfl
  have hown : ∀ k, v.ownBlock = some k → p + 1 ≤ k := fun k hk => (World.ownsRow.lt ho k hk).1
  have ho1 := owns_below ho B1
  replace ht := hid ht
  replace hX := hid hX
  replace hx := hid hx
  replace kt := hid kt
  replace t1 := hid t1
  replace hp := hid hp
  replace hp0 := hid hp0
  replace hp1 := hid hp1
  replace ho := hid ho
  go_enter Tryd.func13, Tryd.ntmps13
  go_wp2_with fail
  rw [← hW0]
  replace hW0 := hid hW0
  go_region_law (first
    | (refine step_call rfl 14 _ _ rfl Tryd.f14 Tryd.func14 (by kernel_rfl) (by kernel_rfl) #[.agg #[.int .i64 (a : Int), .int .i64 (b : Int), .int .i64 (s : Int)]] (by simp [Act.eval, Act.put]) hcp ?_; rintro e w5 ⟨rfl, hb5⟩; have hp5 := hp1.out.below hb5; have c5 := hp5.cell; have ho5 := owns_below ho1 hb5; have bl5 := below_lit w5 (.cells #[.string X] 9); have hp6 := hp5.below bl5; have c6 := hp6.cell; have hcl := cat_lit w5 9 [.string X] #[.string X] rfl; have ho6 := owns_below ho5 bl5; have B6 := bnext hb5 bl5; have hbase : p + 1 ≤ (w5.alloc (.cells #[.string X] 9)).heap.size := (Nat.le_trans hlt (Nat.le_trans B1.size B6.size)); replace hp5 := hid hp5; replace hp6 := hid hp6; refine ⟨_, rfl, ?_⟩)
    | (refine step_cat rfl (.tmp 3) (.tmp 6) 47 rfl (p + 1) 9 i0 _ 1 16 Tryd.underlying47 hi0 hz0 hz1 hz2 rfl (by omega) v T.length (T.map Str) rfl ho6 (some ⟨w5.heap.size, 0, none⟩) 1 1 [.string X] rfl rfl hcl hone (by unfold maxLen; omega) (by omega) hbase ?_; intro v7 w7 hr7 hg7 hv7; obtain ⟨a7, k7, e7, hk7⟩ := owns_form hr7; subst e7; have hp7 : TBlk 47 w7 p v := hp6.out.kp (Kp.grown hg7) (fun h => by have := hown _ h; omega); have c7 := hp7.cell; have f7 := hp7.free))
  all_goals
    have hfin : ∃ v', TBlk 47 (w7.setCell ⟨p, 0, none⟩ (.slice a7 (T.length + 1) k7)) p v' ∧ SOwn (w7.setCell ⟨p, 0, none⟩ (.slice a7 (T.length + 1) k7)) (p + 1) v' (T ++ [x]) ∧ Kp (fun k => p ≤ k) w (w7.setCell ⟨p, 0, none⟩ (.slice a7 (T.length + 1) k7)) := by
      refine ⟨_, hp7.set _, ?_, ?_⟩
      · have hk : Kp (fun k => k = p) w7 (w7.setCell ⟨p, 0, none⟩ (.slice a7 (T.length + 1) k7)) := Kp.setCell (S := fun k => k = p) (Kp.refl _ _) (p := ⟨p, 0, none⟩) rfl _
        have h1 := owns_kp hr7 hk (fun k hk e => by have := (World.ownsRow.lt hr7 k hk).1; omega)
        unfold SOwn
        rw [← hX.out] at h1
        simpa using h1
      · refine Kp.setCell (S := fun k => p ≤ k) (p := ⟨p, 0, none⟩) ?_ (Nat.le_refl p) _
        refine ((Kp.of_below (bnext B1 B6)).next (Kp.grown hg7) fun i _ h => ?_)
        have := hown _ h
        omega
    replace hfin := hid hfin
    go_wp2
    go_end0
    exact ⟨rfl, hfin.out⟩
end Go.Proofs.YtomdghodbkhkaaaDoor
