/- Print. -/
import Derived.Test.YtomdghodbkhkaaaDoorEch
namespace Go.Proofs.YtomdghodbkhkaaaDoor
open Go.RowKit
set_option linter.unusedVariables false
set_option linter.unusedSimpArgs false

theorem runs_ne {N : List Nat} (h : listN N) : runsL N ≠ [] := by
  intro e
  have k2 := (runs_good N.length N (Nat.le_refl _) h.2.2.1 h.2.2.2).2.1
  rw [e] at k2
  have h1 := h.1
  rw [← k2] at h1
  simp [flat] at h1
theorem prT_len {N : List Nat} (h : listN N) : (prT N).length ≤ 400 := by
  obtain ⟨k1, k2, k3⟩ := runs_good N.length N (Nat.le_refl _) h.2.2.1 h.2.2.2
  have h2 := h.2.1
  unfold prT
  cases e : runsL N with
  | nil => exact absurd e (runs_ne h)
  | cons r t =>
    rw [e] at k3
    rw [List.map_cons, Lib.join_cons, List.length_append, Lib.joinTail_length]
    simp only [List.map_cons, Lib.lens, List.sum_cons, List.length_cons, List.length_map] at k3 ⊢
    simp only [List.length_nil]
    omega
theorem runs_many {N : List Nat} (h : listN N) : (runsL N).length ≤ 160 := by
  have := (runs_good N.length N (Nat.le_refl _) h.2.2.1 h.2.2.2).2.2
  have := h.2.1
  omega

/-- What Print tells. -/
def PrTold (L : List Int) (e : Ending) : Prop := (¬ ListP L ∧ e = .returned (.tuple #[.string ⟨#[]⟩, .int .i64 2])) ∨ ∃ N, L = cs N ∧ listN N ∧ e = .returned (.tuple #[Str (prT N), .int .i64 0])

set_option maxRecDepth 100000 in
set_option maxHeartbeats 1600000 in
theorem print_any (a : Option Addr) (k c : Nat) (L : List Int) (w : World) (hn : L.length = k) (hl : k ≤ 4611686018427387904) (hkc : k ≤ c) (hat : IAt w a L) (ht : Tb w) :
    Calls Tryd.prog 5 #[.slice a k c] w fun e w' => PrTold L e ∧ Below w.heap.size w w' := by
  have kl := list_any a k c L w hn hl hat
  by_cases hL : ListP L
  · rw [listB_yes hL] at kl
    obtain ⟨N, hN, hlN⟩ := list_cs hL
    have hNk : N.length = k := by rw [← hn, hN, cs_len]
    obtain ⟨b, o, rfl⟩ := hat.place (by rw [hn, ← hNk]; exact hlN.1)
    have hblt : b < w.heap.size := CAt.lt hat (by
      intro e
      have : (L.flatMap ic).length = 0 := by rw [e]; rfl
      rw [flat_len ic 1 ic_len] at this
      have := hlN.1
      omega) ⟨b, o, none⟩ rfl
    have h1p := ht.lt
    rw [hN] at hat
    have hpt := hid (show PrTold L (.returned (.tuple #[Str (prT N), .int .i64 0])) from .inr ⟨N, hN, hlN, rfl⟩)
    have hpl := prT_len hlN
    have hrn := runs_ne hlN
    have hrm := runs_many hlN
    generalize PrTold L = PT at *
    clear hL hN hn
    replace hlN := hid hlN
    replace hNk := hid hNk
    replace hat := hid hat
    replace ht := hid ht
    obtain ⟨Js, hJs⟩ : ∃ Js, Js = (runsL N).map textR := ⟨_, rfl⟩
    have hJl : Js.length = (runsL N).length := by rw [hJs, List.length_map]
    have hpr : Lib.join Js [44] = prT N := by rw [hJs]; rfl
    have hj0 : 0 < Js.length := by rw [hJl]; exact List.length_pos_iff.2 hrn
    go_enter Tryd.func5, Tryd.ntmps5
    go_wp2_with fail
    refine kl.mono ?_
    rintro e w1 ⟨rfl, hb1⟩
    go_wp2_with fail
    have bl := below_lit w1 (.cells #[.slice none 0 0] 47)
    have B2 := bnext hb1 bl
    have s1 := hb1.size
    have t2 : TBlk 47 (w1.alloc (.cells #[.slice none 0 0] 47)) w1.heap.size (.slice none 0 0) := heap_alloc_new _ _
    have o2 : SOwn (w1.alloc (.cells #[.slice none 0 0] 47)) (w1.heap.size + 1) (.slice none 0 0) [] := World.ownsRow_nil _ _ _ _
    have kE := each_any b o k c w1.heap.size N (.slice none 0 0) _ hNk.out hkc hlN.out (CAt.below hat.out B2) (by omega) (by rw [size_lit]; omega) (by omega) (ht.out.below B2) t2 o2
    rw [← hJs] at kE
    replace hJs := hid hJs
    replace t2 := hid t2
    replace o2 := hid o2
    refine kE.mono ?_
    rintro e w3 ⟨rfl, v3, t3, o3, k3⟩
    obtain ⟨g, c3, rfl, hg1, hg2, hnc, hfz⟩ := owns_spot o3 hj0
    have hc3 := owns_cat o3
    have y0 := t3.cell
    have hcells : ∀ (j : Nat) (x : ByteArray), (Js.map fun l => (⟨l.toArray⟩ : ByteArray))[j]? = some x → w3.cell? ⟨g, 0 + j, none⟩ = some (.string x) := fun j x hx => by
      obtain ⟨b2, o2', e2, hc4⟩ := hc3 (by intro e9; have e8 : (Js.map Str).length = 0 := (by rw [e9]; rfl); rw [List.length_map] at e8; omega)
      cases e2
      rw [List.getElem?_map] at hx
      cases e : Js[j]? with
      | none => rw [e] at hx; cases hx
      | some q =>
        rw [e] at hx
        have hjl : j < Js.length := (List.getElem?_eq_some_iff.1 e).1
        have h5 := hc4 j (by simpa using hjl)
        rw [h5]
        simp only [Option.map_some, Option.some.injEq] at hx
        rw [← hx, List.getElem_map]
        rw [List.getElem?_eq_getElem hjl] at e
        simp only [Option.some.injEq] at e
        rw [e]
        rfl
    have hjo : Lib.join ((Js.map fun l => (⟨l.toArray⟩ : ByteArray)).map (·.data.toList)) [44] = prT N := by
      rw [List.map_map, ← hpr]
      congr 1
      exact (List.map_congr_left fun x _ => rfl).trans (List.map_id _)
    have kJ := join_lib g 0 c3 (Js.map fun l => (⟨l.toArray⟩ : ByteArray)) ⟨#[44]⟩ w3 hcells hg2 (by rw [List.length_map]; omega) (by rw [List.length_map]; exact hnc) (by
      show (Lib.join _ [44]).length ≤ _
      rw [hjo]; omega)
    replace kJ : Calls Tryd.prog 15 #[.slice (some ⟨g, 0, none⟩) Js.length c3, .string ⟨#[44]⟩] w3 fun e w' => e = .returned (Str (prT N)) ∧ Below w3.heap.size w3 w' := by
      have h6 := kJ
      rw [List.length_map] at h6
      rw [show Lib.join ((Js.map fun l => (⟨l.toArray⟩ : ByteArray)).map (·.data.toList)) (⟨#[44]⟩ : ByteArray).data.toList = prT N from hjo] at h6
      exact h6
    have B3 := B2.trans (k3.below (fun k hk => Nat.le_trans s1 hk) B2.size)
    generalize Js.length = n at *
    clear hcells hjo hc3 o3 t3 k3 hJl hpr hj0
    go_wp2_with fail
    refine kJ.mono ?_
    rintro e w4 ⟨rfl, hb4⟩
    go_wp2
    go_ret2
    exact ⟨hpt.out, bnext B3 hb4⟩
  · rw [listB_no hL] at kl
    have hpt := hid (show PrTold L (.returned (.tuple #[.string ⟨#[]⟩, .int .i64 2])) from .inl ⟨hL, rfl⟩)
    generalize PrTold L = PT at *
    clear hL
    replace hn := hid hn
    replace hat := hid hat
    go_enter Tryd.func5, Tryd.ntmps5
    go_wp2_with fail
    refine kl.mono ?_
    rintro e w1 ⟨rfl, hb1⟩
    go_wp2
    go_ret2
    exact ⟨hpt.out, hb1⟩
end Go.Proofs.YtomdghodbkhkaaaDoor
