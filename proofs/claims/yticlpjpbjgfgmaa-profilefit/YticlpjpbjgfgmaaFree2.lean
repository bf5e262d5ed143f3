/- Free of the program. -/
import Derived.Test.YticlpjpbjgfgmaaFree
namespace Go.Proofs.Yticlpjpbjgfgmaa
open Go.RowKit

/-- The boxes that Free's closure reads. -/
structure FB (w0 w : World) (g : Nat) (a : Option Addr) (n c0 : Nat) (L : List Nd1) (p q c : Int) : Prop where
  o0 : One w g (.slice a n c0) 23
  o1 : One w (g + 1) (.int .i64 p) 2
  o2 : One w (g + 2) (.int .i64 q) 2
  o3 : One w (g + 3) (.int .i64 c) 3
  at_ : PAt w a L
  bel : Below w0.heap.size w0 w

theorem FB.below {w0 w w' : World} {g : Nat} {a : Option Addr} {n c0 : Nat} {L : List Nd1} {p q c : Int} (h : FB w0 w g a n c0 L p q c) (hb : Below w.heap.size w w') : FB w0 w' g a n c0 L p q c :=
  ⟨h.o0.below hb, h.o1.below hb, h.o2.below hb, h.o3.below hb, h.at_.below hb, bnext h.bel hb⟩

set_option maxRecDepth 100000 in
set_option maxHeartbeats 800000 in
theorem free1 (w0 : World) (g : Nat) (a : Option Addr) (n c0 : Nat) (L : List Nd1) (p q c : Int) (k : Nat) (w : World) (hn : L.length = n) (hk : k < n) (hr : RightPr (cutsOf L)) (hw : winP p q) (h : FB w0 w g a n c0 L p q c) :
    Calls Try.prog 32 #[.int .i64 (k : Int), ptr g, ptr (g + 1), ptr (g + 2), ptr (g + 3)] w fun e w' => e = .returned (.bool (decide (c ≤ lsT ((cutsOf L).getD k []) p q ((cutsOf L).getD k []).length))) ∧ FB w0 w' g a n c0 L p q c := by
  have hkL : k < L.length := by omega
  obtain ⟨b, o, e⟩ := h.at_.place (by omega)
  subst e
  have hb := hid h
  have y0 := h.at_.one hkL
  have c0' := h.o0.cell
  have c1 := h.o1.cell
  have c2 := h.o2.cell
  have c3 := h.o3.cell
  have hrC := hr.2.2 L[k].C (List.mem_map.2 ⟨_, List.getElem_mem hkL, rfl⟩)
  have kL := fun w' (hb : Below w.heap.size w w') => least_any L[k].a L[k].C.length L[k].c L[k].C p q w' rfl (by have := hrC.2.1; omega) ((h.at_.each _ (List.getElem_mem hkL)).below hb)
  rw [show lsA L[k].C p q = (lsT L[k].C p q L[k].C.length, 0) from if_pos ⟨hrC, hw⟩] at kL
  have hn2 : n ≤ 32 := by have := hr.2.1; rw [cutsOf_len, hn] at this; exact this
  rw [cutsOf_get hkL]
  replace hn := hid hn
  replace hr := hid hr
  replace hw := hid hw
  replace hrC := hid hrC
  clear h
  generalize lsT L[k].C p q L[k].C.length = V at *
  generalize L[k].a = la at *
  generalize L[k].c = lc at *
  generalize L[k].C.length = ll at *
  have hS : ∀ w', Below w.heap.size w w' → w'.cell? ⟨g, 0, none⟩ = some (.slice (some ⟨b, o, none⟩) n c0) ∧ w'.cell? ⟨b, o + k, none⟩ = some (.slice la ll lc) ∧ w'.cell? ⟨g + 1, 0, none⟩ = some (.int .i64 p) ∧ w'.cell? ⟨g + 2, 0, none⟩ = some (.int .i64 q) ∧ w'.cell? ⟨g + 3, 0, none⟩ = some (.int .i64 c) :=
    fun w' hb => ⟨stay hb c0', stay hb y0, stay hb c1, stay hb c2, stay hb c3⟩
  replace hS := hid hS
  unfold ptr
  go_enter Try.func32, Try.ntmps32
  go_wp2_with fail
  go_region_held (fun w' : World => w'.cell? ⟨g, 0, none⟩ = some (.slice (some ⟨b, o, none⟩) n c0) ∧ w'.cell? ⟨b, o + k, none⟩ = some (.slice la ll lc) ∧ w'.cell? ⟨g + 1, 0, none⟩ = some (.int .i64 p) ∧ w'.cell? ⟨g + 2, 0, none⟩ = some (.int .i64 q) ∧ w'.cell? ⟨g + 3, 0, none⟩ = some (.int .i64 c))
    (first | exact hS.out _ (bnext (drew_below w) hb4) | exact hS.out _ (drew_below w))
    (first | (go_at_call 33; refine (kL _ (drew_below w)).mono ?_; rintro e w4 ⟨rfl, hb4⟩))
  all_goals
    have hb5 := bnext (drew_below w) hb4
    have z3 := stay hb5 c3
    go_wp2
    go_ret
    exact ⟨rfl, hb.out.below hb5⟩

def freeS (P : List (List Cut)) (nodes : Nat) (p q c : Int) : Nat := gset nodes (fun k => decide (c ≤ lsT (P.getD k []) p q (P.getD k []).length)) P.length
def freeA (P : List (List Cut)) (nodes : Nat) (p q c : Int) : Nat × Int := if RightPr P ∧ winP p q then (freeS P nodes p q c, 0) else (0, 2)

set_option maxRecDepth 100000 in
set_option maxHeartbeats 800000 in
theorem free_any (a : Option Addr) (n c0 : Nat) (L : List Nd1) (s : Nat) (p q c : Int) (w : World) (hn : L.length = n) (hl : n ≤ 4611686018427387904) (hs : ∀ x ∈ L, x.C.length ≤ 4611686018427387904) (hss : s < 4294967296) (hat : PAt w a L) :
    Calls Try.prog 12 #[.slice a n c0, .int .u32 (s : Int), .int .i64 p, .int .i64 q, .int .i64 c] w fun e w' => e = .returned (.tuple #[.int .u32 ((freeA (cutsOf L) s p q c).1 : Int), .int .i64 (freeA (cutsOf L) s p q c).2]) ∧ Below w.heap.size w w' := by
  have b0 := bnext (three_new w (.cells #[.slice a n c0] 23) (.cells #[.int .i64 p] 2) (.cells #[.int .i64 q] 2)) (below_lit _ (.cells #[.int .i64 c] 3))
  have f0 : FB w ((((w.alloc (.cells #[.slice a n c0] 23)).alloc (.cells #[.int .i64 p] 2)).alloc (.cells #[.int .i64 q] 2)).alloc (.cells #[.int .i64 c] 3)) w.heap.size a n c0 L p q c := by
    have h1 := One.new w (.slice a n c0) 23
    have h2 := One.new (w.alloc (.cells #[.slice a n c0] 23)) (.int .i64 p) 2
    have h3 := One.new ((w.alloc (.cells #[.slice a n c0] 23)).alloc (.cells #[.int .i64 p] 2)) (.int .i64 q) 2
    have h4 := One.new (((w.alloc (.cells #[.slice a n c0] 23)).alloc (.cells #[.int .i64 p] 2)).alloc (.cells #[.int .i64 q] 2)) (.int .i64 c) 3
    rw [size_alloc] at h2
    rw [size_alloc, size_alloc] at h3
    rw [size_alloc, size_alloc, size_alloc] at h4
    exact ⟨((h1.below (below_lit _ _)).below (below_lit _ _)).below (below_lit _ _), (h2.below (below_lit _ _)).below (below_lit _ _), h3.below (below_lit _ _), h4, hat.below b0, b0⟩
  have kR := pright_any a n c0 L _ hn hl hs f0.at_
  have kW := fun w => pwindow_any p q w
  have hcl := cutsOf_len L
  rw [hn] at hcl
  by_cases h1 : RightPr (cutsOf L)
  · rw [rightPB_iff.2 h1] at kR
    by_cases h2 : winP p q
    · have hf := hid (show freeA (cutsOf L) s p q c = (gset s (fun k => decide (c ≤ lsT ((cutsOf L).getD k []) p q ((cutsOf L).getD k []).length)) n, 0) by unfold freeA freeS; rw [if_pos ⟨h1, h2⟩, hcl])
      rw [winB_iff.2 h2] at kW
      have kG := fun w' (h : FB w w' w.heap.size a n c0 L p q c) => gather32 n s (fun k => decide (c ≤ lsT ((cutsOf L).getD k []) p q ((cutsOf L).getD k []).length)) w.heap.size (w.heap.size + 1) (w.heap.size + 2) (w.heap.size + 3) (fun _ w' => FB w w' w.heap.size a n c0 L p q c) w'
        (by have := h1.2.1; rw [hcl] at this; exact this) hss h (fun _ _ _ _ h => h) (fun k w' hk _ h => free1 w w.heap.size a n c0 L p q c k w' hn hk h1 h2 h)
      replace f0 := hid f0
      replace hn := hid hn
      replace h1 := hid h1
      replace h2 := hid h2
      replace hcl := hid hcl
      clear hs hat
      generalize gset s (fun k => decide (c ≤ lsT ((cutsOf L).getD k []) p q ((cutsOf L).getD k []).length)) n = S at *
      go_enter Try.func12, Try.ntmps12
      go_wp2_with fail
      refine kR.mono ?_
      rintro e w1 ⟨rfl, hb1⟩
      have f1 := hid (f0.out.below hb1)
      have c0' := f1.out.o0.cell
      have c1 := f1.out.o1.cell
      have c2 := f1.out.o2.cell
      go_wp2_with fail
      refine (kW _).mono ?_
      rintro e w2 ⟨rfl, rfl⟩
      go_wp2_with fail
      refine (kG _ f1.out).mono ?_
      rintro e w3 ⟨rfl, f3⟩
      go_wp2
      go_ret2
      rw [hf.out]
      exact ⟨rfl, f3.bel⟩
    · have hf := hid (show freeA (cutsOf L) s p q c = (0, 2) from if_neg fun h => h2 h.2)
      rw [winB_no h2] at kW
      replace f0 := hid f0
      replace hn := hid hn
      replace h1 := hid h1
      replace h2 := hid h2
      replace hcl := hid hcl
      clear hs hat
      go_enter Try.func12, Try.ntmps12
      go_wp2_with fail
      refine kR.mono ?_
      rintro e w1 ⟨rfl, hb1⟩
      have f1 := hid (f0.out.below hb1)
      have c1 := f1.out.o1.cell
      have c2 := f1.out.o2.cell
      go_wp2_with fail
      refine (kW _).mono ?_
      rintro e w2 ⟨rfl, rfl⟩
      go_wp2
      go_ret2
      rw [hf.out]
      exact ⟨rfl, f1.out.bel⟩
  · have hf := hid (show freeA (cutsOf L) s p q c = (0, 2) from if_neg fun h => h1 h.1)
    rw [rightPB_no h1] at kR
    replace f0 := hid f0
    replace hn := hid hn
    replace h1 := hid h1
    replace hcl := hid hcl
    clear hs hat
    go_enter Try.func12, Try.ntmps12
    go_wp2_with fail
    refine kR.mono ?_
    rintro e w1 ⟨rfl, hb1⟩
    have f1 := hid (f0.out.below hb1)
    go_wp2
    go_ret2
    rw [hf.out]
    exact ⟨rfl, f1.out.bel⟩

end Go.Proofs.Yticlpjpbjgfgmaa
