/- The chapter's examples. -/
import Derived.Test.YticlpjpbjgfgmaaFit
namespace Go.Proofs.Yticlpjpbjgfgmaa
open Go.RowKit
open Nd (cnt lowk)

theorem fit_of (a : Option Addr) (n c0 : Nat) (L : List Nd1) (A : AskP) (ba : Option Addr) (bn bc0 : Nat) (t : Int) (on : Nat) (er : Int) (w : World) (h : FitR (cutsOf L) A t on er) (hn : L.length = n) (hl : n ≤ 4611686018427387904) (hs : ∀ x ∈ L, x.C.length ≤ 4611686018427387904) (hat : PAt w a L) (hbn : A.bs.length = bn) (hbl : bn ≤ 4611686018427387904) (hbs : ∀ b ∈ A.bs, b.nodes < 4294967296) (hnd : A.nodes < 4294967296) (hba : BAt w ba A.bs) :
    Calls Try.prog 22 #[.slice a n c0, A.val ba bn bc0] w fun e w' => e = .returned (.tuple #[.int .i64 t, .int .u32 (on : Int), .int .i64 er]) ∧ Below w.heap.size w w' := by
  refine (fit_any a n c0 L A ba bn bc0 w hn hl hs hat hbn hbl hbs hnd hba).mono ?_
  rintro e w' ⟨t', on', er', rfl, h1, h2⟩
  obtain ⟨rfl, rfl, rfl⟩ := h1.uniq h
  exact ⟨rfl, h2⟩

def exP : List (List Cut) := [[(0, 4)], [(0, 4)]]
def exQ : List (List Cut) := [[(0, 1), (10, 4)], [(0, 4)]]
def exA1 : AskP := ⟨1, 2, 5, 0, 3, []⟩
def exA2 : AskP := ⟨2, 2, 5, 0, 3, []⟩
def exA3 : AskP := ⟨1, 2, 5, 0, 3, [⟨2, 3, 20⟩]⟩

theorem ex_new : newA [4, 4] = (exP, 0) := by decide +kernel
theorem ex_take : takeA exP 1 3 0 10 = (exQ, 0) := by decide +kernel
theorem ex_over : takeA exQ 1 2 9 11 = ([], 120) := by decide +kernel
theorem ex_right : RightPr exQ := by decide +kernel
theorem ex_a1 : RightAsk exA1 := by decide +kernel
theorem ex_a2 : RightAsk exA2 := by decide +kernel
theorem ex_a3 : RightAsk exA3 := by decide +kernel
theorem ex_fit1 : FitR exQ exA1 0 2 0 := .inl ⟨ex_right, ex_a1, .inl ⟨rfl, by decide, by decide, by decide +kernel, by decide +kernel, fun u h1 h2 => by have : (0 : Int) ≤ u := h1; omega⟩⟩
theorem ex_fit2 : FitR exQ exA2 10 3 0 := .inl ⟨ex_right, ex_a2, .inl ⟨rfl, by decide, by decide, by decide +kernel, by decide +kernel, fun u h1 h2 => by
  have h3 : (0 : Int) ≤ u := h1
  have h4 : u = 0 ∨ u = 1 ∨ u = 2 ∨ u = 3 ∨ u = 4 ∨ u = 5 ∨ u = 6 ∨ u = 7 ∨ u = 8 ∨ u = 9 := by omega
  rcases h4 with rfl | rfl | rfl | rfl | rfl | rfl | rfl | rfl | rfl | rfl <;> decide +kernel⟩⟩
theorem ex_fit3 : FitR exQ exA3 10 1 0 := .inl ⟨ex_right, ex_a3, .inl ⟨rfl, by decide, by decide, by decide +kernel, by decide +kernel, fun u h1 h2 => by
  have h3 : (0 : Int) ≤ u := h1
  have h4 : u = 0 ∨ u = 1 ∨ u = 2 ∨ u = 3 ∨ u = 4 ∨ u = 5 ∨ u = 6 ∨ u = 7 ∨ u = 8 ∨ u = 9 := by omega
  rcases h4 with rfl | rfl | rfl | rfl | rfl | rfl | rfl | rfl | rfl | rfl <;> decide +kernel⟩⟩

/-- What is told of a profile of n nodes. -/
theorem told_n {f : FuncId} {args : Array Value} {w : World} {D : List (List Cut)} {E : Int} (n : Nat) (hD : D.length = n) (h : Calls Try.prog f args w fun e w' => PTold (D, E) w e w') :
    Calls Try.prog f args w fun e w' => ∃ a c L, e = .returned (.tuple #[.slice a n c, .int .i64 E]) ∧ cutsOf L = D ∧ L.length = n ∧ PAt w' a L ∧ Below w.heap.size w w' := by
  refine h.mono ?_
  rintro e w' ⟨a, c, L, rfl, h1, h2, h3⟩
  refine ⟨a, c, L, ?_, h1, ?_, h2.pat, h3⟩
  · show _ = Ending.returned (.tuple #[.slice a n c, .int .i64 E])
    rw [← hD]
  · rw [← cutsOf_len, h1]; exact hD

theorem ABlk.set0 {w : World} {g : Nat} {A : AskP} {a : Option Addr} {n c : Nat} (h : ABlk w g A a n c) (x : Int) : ABlk (w.setCell ⟨g, 0, none⟩ (.int .i64 x)) g { A with count := x } a n c := by
  unfold ABlk at *
  rw [setCell_eq_setRow w g 0 _ 44 (0, 0) _ h, setRow_heap w g _ _ 44 _ h]
  simp [AskP.cells]
theorem ABlk.free {w : World} {g : Nat} {A : AskP} {a : Option Addr} {n c : Nat} (h : ABlk w g A a n c) (j : Nat) : w.frozen? ⟨g, j, none⟩ = false := by unfold ABlk at h; simp [World.frozen?, h]

set_option maxRecDepth 100000 in
set_option maxHeartbeats 2000000 in
theorem awake_any (w : World) : Calls Try.prog 8 #[] w fun e w' => e = .returned (.bool true) ∧ Below w.heap.size w w' := by
  have bl0 := below_lit w (.cells #[.int .i64 4, .int .i64 4] 3)
  have kN := new_any (some ⟨w.heap.size, 0, none⟩) 2 2 [4, 4] _ rfl (by omega) (cat_lit w 3 _ #[.int .i64 4, .int .i64 4] rfl)
  rw [ex_new] at kN
  replace kN := told_n 2 rfl kN
  go_enter Try.func8, Try.ntmps8
  go_wp2_with fail
  refine kN.mono ?_
  rintro e w1 ⟨a1, c1, L1, rfl, hL1, hl1, hP1, hb1⟩
  have B1 := bnext bl0 hb1
  have kT := take_any a1 2 c1 L1 1 3 0 10 w1 hl1 (by omega) (fun x hx => by
    have := short_of (L := L1) (by rw [hL1]; decide +kernel) x hx
    omega) (by omega) hP1
  rw [hL1, ex_take] at kT
  replace kT := told_n 2 rfl kT
  clear kN hP1 hL1 hb1 bl0 hl1
  go_wp2_with fail
  refine kT.mono ?_
  rintro e w2 ⟨a2, c2, L2, rfl, hL2, hl2, hP2, hb2⟩
  have B2 := bnext B1 hb2
  have hs2 := hid (show ∀ x ∈ L2, x.C.length ≤ 4611686018427387904 from fun x hx => by
    have := short_of (L := L2) (by rw [hL2]; exact ex_right) x hx
    omega)
  have ab := ABlk.new w2 exA1 none 0 0
  have bl2 := below_lit w2 (.cells (exA1.cells none 0 0) 44)
  have k1 := fit_of a2 2 c2 L2 exA1 none 0 0 0 2 0 _ (by rw [hL2]; exact ex_fit1) hl2 (by omega) hs2.out (hP2.below bl2) rfl (by omega) (fun b hb => by cases hb) (by decide) (BAt.nil _ _)
  have kFit := hid (fun (A : AskP) (ba : Option Addr) (bn bc0 : Nat) (t : Int) (on : Nat) (er : Int) (w' : World) (h : FitR exQ A t on er) (hb : Below w2.heap.size w2 w') => fit_of a2 2 c2 L2 A ba bn bc0 t on er w' (by rw [hL2]; exact h) hl2 (by omega) hs2.out (hP2.below hb))
  have kTak := hid (fun (w' : World) (hb : Below w2.heap.size w2 w') => take_any a2 2 c2 L2 1 2 9 11 w' hl2 (by omega) hs2.out (by omega) (hP2.below hb))
  rw [hL2, ex_over] at kTak
  clear kT hb2
  replace hP2 := hid hP2
  replace hL2 := hid hL2
  replace hl2 := hid hl2
  have hab := hid ab
  have e0 := ab.c0
  have e1 := ab.c1
  have e2 := ab.c2
  have e3 := ab.c3
  have e4 := ab.c4
  have e5 := ab.c5
  have hg0 := ab.lt
  clear ab
  simp only [AskP.val, AskP.cells, exA1] at k1 e0 e1 e2 e3 e4 e5
  go_wp2_with fail
  refine k1.mono ?_
  rintro e w3 ⟨rfl, hb3⟩
  have ab3 := hab.out.below hb3
  have B3 := bnext bl2 hb3
  clear e0 e1 e2 e3 e4 e5 k1
  have f3 := ab3.free 0
  have e0 := ab3.c0
  have ab4 := hid (ab3.set0 2)
  have B4 : Below w2.heap.size w2 (w3.setCell ⟨w2.heap.size, 0, none⟩ (.int .i64 2)) := B3.setCell (p := ⟨w2.heap.size, 0, none⟩) (Nat.le_refl _) _
  have k2 := kFit.out exA2 none 0 0 10 3 0 _ ex_fit2 B4 rfl (by omega) (fun b hb => by cases hb) (by decide) (BAt.nil _ _)
  have d0 := ab4.out.c0
  have d1 := ab4.out.c1
  have d2 := ab4.out.c2
  have d3 := ab4.out.c3
  have d4 := ab4.out.c4
  have d5 := ab4.out.c5
  simp only [AskP.val, AskP.cells, exA2, exA1] at k2 d0 d1 d2 d3 d4 d5
  clear ab3
  go_wp2_with fail
  generalize w3.setCell ⟨w2.heap.size, 0, none⟩ (.int .i64 2) = w4 at *
  refine k2.mono ?_
  rintro e w5 ⟨rfl, hb5⟩
  have ab5 := ab4.out.below hb5
  have B5 := bnext B4 hb5
  clear d0 d1 d2 d3 d4 d5 k2 e0 f3 ab4
  have hg5 := ab5.lt
  have d0 := ab5.c0
  have d1 := ab5.c1
  have d2 := ab5.c2
  have d3 := ab5.c3
  have d4 := ab5.c4
  have d5 := ab5.c5
  have f0 := ab5.free 0
  have f1 := ab5.free 1
  have f2 := ab5.free 2
  have f3 := ab5.free 3
  have f4 := ab5.free 4
  have f5 := ab5.free 5
  simp only [exA1] at d0 d1 d2 d3 d4 d5
  replace ab5 := hid ab5
  have B6 : Below w2.heap.size w2 ((((((w5.setCell ⟨w2.heap.size, 0, none⟩ (.int .i64 1)).setCell ⟨w2.heap.size, 1, none⟩ (.int .i64 2)).setCell ⟨w2.heap.size, 2, none⟩ (.int .i64 5)).setCell ⟨w2.heap.size, 3, none⟩ (.int .i64 0)).setCell ⟨w2.heap.size, 4, none⟩ (.int .u32 3)).setCell ⟨w2.heap.size, 5, none⟩ (.slice (some ⟨w5.heap.size, 0, none⟩) 1 1)) := (((((B5.setCell (p := ⟨w2.heap.size, 0, none⟩) (Nat.le_refl _) _).setCell (p := ⟨w2.heap.size, 1, none⟩) (Nat.le_refl _) _).setCell (p := ⟨w2.heap.size, 2, none⟩) (Nat.le_refl _) _).setCell (p := ⟨w2.heap.size, 3, none⟩) (Nat.le_refl _) _).setCell (p := ⟨w2.heap.size, 4, none⟩) (Nat.le_refl _) _).setCell (p := ⟨w2.heap.size, 5, none⟩) (Nat.le_refl _) _
  have hsz : ((((((w5.setCell ⟨w2.heap.size, 0, none⟩ (.int .i64 1)).setCell ⟨w2.heap.size, 1, none⟩ (.int .i64 2)).setCell ⟨w2.heap.size, 2, none⟩ (.int .i64 5)).setCell ⟨w2.heap.size, 3, none⟩ (.int .i64 0)).setCell ⟨w2.heap.size, 4, none⟩ (.int .u32 3)).setCell ⟨w2.heap.size, 5, none⟩ (.slice (some ⟨w5.heap.size, 0, none⟩) 1 1)).heap.size = w5.heap.size := by simp [World.setCell]
  go_wp2_with fail
  generalize (((((w5.setCell ⟨w2.heap.size, 0, none⟩ (.int .i64 1)).setCell ⟨w2.heap.size, 1, none⟩ (.int .i64 2)).setCell ⟨w2.heap.size, 2, none⟩ (.int .i64 5)).setCell ⟨w2.heap.size, 3, none⟩ (.int .i64 0)).setCell ⟨w2.heap.size, 4, none⟩ (.int .u32 3)).setCell ⟨w2.heap.size, 5, none⟩ (.slice (some ⟨w5.heap.size, 0, none⟩) 1 1) = w6 at *
  have B7 := bnext B6 (below_lit w6 (.cells #[.int .u32 2, .int .i64 3, .int .i64 20] 51))
  have k3 := kFit.out exA3 (some ⟨w5.heap.size, 0, none⟩) 1 1 10 1 0 _ ex_fit3 B7 rfl (by omega) (fun b hb => by
    have : b = ⟨2, 3, 20⟩ := by simpa [exA3] using hb
    subst this; decide) (by decide) (by rw [← hsz]; exact cat_lit w6 51 _ _ rfl)
  simp only [AskP.val, AskP.cells, exA3] at k3
  clear d0 d1 d2 d3 d4 d5 f0 f1 f2 f3 f4 f5 B5 hb5 ab5
  generalize w6.alloc (.cells #[.int .u32 2, .int .i64 3, .int .i64 20] 51) = w7 at *
  refine k3.mono ?_
  rintro e w8 ⟨rfl, hb8⟩
  have B8 := bnext B7 hb8
  have k4 := told_n 0 rfl (kTak.out _ B8)
  clear k3 hb8 kFit kTak
  go_wp2_with fail
  refine k4.mono ?_
  rintro e w9 ⟨a9, c9, L9, rfl, _, _, _, hb9⟩
  have B9 := bnext B2 (bnext B8 hb9)
  go_wp2
  go_ret
  exact ⟨rfl, B9⟩

end Go.Proofs.Yticlpjpbjgfgmaa
