/- What stateOf answers: is a file a state? -/
import Derived.Test.YtcbgnodmamcmkaaEntAt
namespace Go.Proofs.Ytcbgnodmamcmkaa
open Go.RowKit

/-- All of l is a state. -/
def IsState (l : List UInt8) : Prop := EntAt l 0 1048559 ∧ endAt l 0 = l.length ∧ kindAt l 0 = 255

theorem results_rec2 {fn : Func} {p u : Tmp} (h : fn.results = #[.cell p 27, .tmp u]) (tmps : Array Value) (w : World) (g : Nat) (x y z : Value)
    (hp : tmps.getD p undef = .pointer (some ⟨g, 0, none⟩)) (hg : RBlk w g x y z) :
    (results fn tmps).run Try.prog w = .ok (.tuple #[.agg #[x, y, z], tmps.getD u undef]) w := by
  have hp' : tmps[p]?.getD undef = .pointer (some ⟨g, 0, none⟩) := by simpa using hp
  simp [results, h, hp', asAddr, run_loadVar_row (P := Try.prog) w g 27 27 _ (0, 0) _ hg Try.underlying27 rfl info27]

set_option maxRecDepth 100000 in
set_option maxHeartbeats 2000000 in
theorem stateof_no (a : Option Addr) (len cap : Nat) (l : List UInt8) (w : World) (hl : l.length = len) (hlen : len ≤ 140737488355328) (hcap : len ≤ cap) (hat : At w a l) (hno : ¬ IsState l) :
    Calls Try.prog 81 #[.slice a len cap] w fun e w' => e = .returned (.tuple #[.agg #[.int .i64 0, .int .u8 0, .slice none 0 0], .bool false]) ∧ Below w.heap.size w w' := by
  have bb := below_lit w (.cells #[.int .i64 0, .int .u8 0, .slice none 0 0] 27)
  have hB := RBlk.new w (.int .i64 0) (.int .u8 0) (.slice none 0 0)
  by_cases hE : EntAt l 0 1048559
  · have hca := entat_yes a len cap 0 1048559 l _ hl hlen (by omega) (by omega) hcap (hat.below bb) hE
    obtain ⟨M, hM⟩ : ∃ M, M = numAt l 0 := ⟨_, rfl⟩
    obtain ⟨KD, hKD⟩ : ∃ KD, KD = kindAt l 0 := ⟨_, rfl⟩
    obtain ⟨SZ, hSZ⟩ : ∃ SZ, SZ = sizeAt l 0 - 9 := ⟨_, rfl⟩
    obtain ⟨EN, hEN⟩ : ∃ EN, EN = endAt l 0 := ⟨_, rfl⟩
    rw [← hM, ← hKD, ← hSZ, ← hEN] at hca
    have hor : EN ≠ len ∨ (EN = len ∧ KD ≠ 255) := by
      rcases Nat.lt_trichotomy EN len with h | h | h
      · exact .inl (by omega)
      · refine .inr ⟨h, fun e => hno ⟨hE, by rw [← hEN, hl]; exact h, by rw [← hKD]; exact e⟩⟩
      · exact .inl (by omega)
    replace hM := hid hM
    replace hKD := hid hKD
    replace hSZ := hid hSZ
    replace hEN := hid hEN
    replace hl := hid hl
    go_enter Try.func81, Try.ntmps81
    go_wp2_with fail
    refine hca.mono ?_
    rintro e w1 ⟨ba, bc, rfl, ho, hb⟩
    have hB1 := hB.below hb
    have b1 := bnext bb hb
    have bl := below_lit w1 (.cells #[.int .i64 (M : Int), .int .u8 (KD.toNat : Int), .slice ba SZ bc] 27)
    have hB2 := hB1.below bl
    have b2 := bnext b1 bl
    have x0 := hB2.cell0
    have x1 := hB2.cell1
    have x2 := hB2.cell2
    have f0 := hB2.free 0
    have f1 := hB2.free 1
    have f2 := hB2.free 2
    rcases hor with h1 | ⟨h1, h2⟩
    · have e1 : ((EN : Int) != (len : Int)) = true := by simp; omega
      go_wp2
      (try simp only [Exit.inBlock, Exit.then])
      refine bodyPost_ret (results_rec2 rfl _ _ w.heap.size (.int .i64 0) (.int .u8 0) (.slice none 0 0) rfl (by first | exact hB2 | exact hB2.set _ _ _)) rfl ?_
      exact ⟨rfl, by first | exact b2 | exact ((b2.setCell (p := ⟨w.heap.size, 0, none⟩) (Nat.le_refl _) _).setCell (p := ⟨w.heap.size, 1, none⟩) (Nat.le_refl _) _).setCell (p := ⟨w.heap.size, 2, none⟩) (Nat.le_refl _) _⟩
    · have e1 : ((EN : Int) != (len : Int)) = false := by simp; omega
      have e2 : ((KD.toNat : Int) != 255) = true := by
        simp
        intro e
        exact h2 (UInt8.toNat_inj.1 (by rw [show (255 : UInt8).toNat = 255 from rfl]; omega))
      replace h1 := hid h1
      replace h2 := hid h2
      go_wp2
      (try simp only [Exit.inBlock, Exit.then])
      refine bodyPost_ret (results_rec2 rfl _ _ w.heap.size (.int .i64 0) (.int .u8 0) (.slice none 0 0) rfl (by first | exact hB2 | exact hB2.set _ _ _)) rfl ?_
      exact ⟨rfl, by first | exact b2 | exact ((b2.setCell (p := ⟨w.heap.size, 0, none⟩) (Nat.le_refl _) _).setCell (p := ⟨w.heap.size, 1, none⟩) (Nat.le_refl _) _).setCell (p := ⟨w.heap.size, 2, none⟩) (Nat.le_refl _) _⟩
  · have hca := entat_no a len cap 0 1048559 l _ hl hlen (by omega) (by omega) hcap (hat.below bb) hE
    replace hl := hid hl
    go_enter Try.func81, Try.ntmps81
    go_wp2_with fail
    refine hca.mono ?_
    rintro e w1 ⟨rfl, hb⟩
    have hB1 := hB.below hb
    have b1 := bnext bb hb
    have bl := below_lit w1 (.cells #[.int .i64 0, .int .u8 0, .slice none 0 0] 27)
    have hB2 := hB1.below bl
    have b2 := bnext b1 bl
    have x0 := hB2.cell0
    have x1 := hB2.cell1
    have x2 := hB2.cell2
    have f0 := hB2.free 0
    have f1 := hB2.free 1
    have f2 := hB2.free 2
    go_wp2
    (try simp only [Exit.inBlock, Exit.then])
    refine bodyPost_ret (results_rec2 rfl _ _ w.heap.size (.int .i64 0) (.int .u8 0) (.slice none 0 0) rfl (by first | exact hB2 | exact hB2.set _ _ _)) rfl ?_
    exact ⟨rfl, by first | exact b2 | exact ((b2.setCell (p := ⟨w.heap.size, 0, none⟩) (Nat.le_refl _) _).setCell (p := ⟨w.heap.size, 1, none⟩) (Nat.le_refl _) _).setCell (p := ⟨w.heap.size, 2, none⟩) (Nat.le_refl _) _⟩

set_option maxRecDepth 100000 in
set_option maxHeartbeats 2000000 in
theorem stateof_yes (a : Option Addr) (len cap : Nat) (l : List UInt8) (w : World) (hl : l.length = len) (hlen : len ≤ 140737488355328) (hcap : len ≤ cap) (hat : At w a l) (h : IsState l) :
    Calls Try.prog 81 #[.slice a len cap] w fun e w' => ∃ ba bc, e = .returned (.tuple #[.agg #[.int .i64 (numAt l 0 : Int), .int .u8 255, .slice ba (sizeAt l 0 - 9) bc], .bool true]) ∧ Own w' w.heap.size (.slice ba (sizeAt l 0 - 9) bc) (bodyAt l 0) ∧ Below w.heap.size w w' := by
  have bb := below_lit w (.cells #[.int .i64 0, .int .u8 0, .slice none 0 0] 27)
  have hB := RBlk.new w (.int .i64 0) (.int .u8 0) (.slice none 0 0)
  obtain ⟨hE, h1, h2⟩ := h
  have hca := entat_yes a len cap 0 1048559 l _ hl hlen (by omega) (by omega) hcap (hat.below bb) hE
  rw [h2, h1, hl] at hca
  obtain ⟨M, hM⟩ : ∃ M, M = numAt l 0 := ⟨_, rfl⟩
  obtain ⟨SZ, hSZ⟩ : ∃ SZ, SZ = sizeAt l 0 - 9 := ⟨_, rfl⟩
  rw [← hM, ← hSZ] at hca ⊢
  replace hM := hid hM
  replace hSZ := hid hSZ
  replace hl := hid hl
  replace h1 := hid h1
  replace h2 := hid h2
  go_enter Try.func81, Try.ntmps81
  go_wp2_with fail
  refine hca.mono ?_
  rintro e w1 ⟨ba, bc, rfl, ho, hb⟩
  have hB1 := hB.below hb
  have b1 := bnext bb hb
  have bl := below_lit w1 (.cells #[.int .i64 (M : Int), .int .u8 255, .slice ba SZ bc] 27)
  have hB2 := hB1.below bl
  have b2 := bnext b1 bl
  have x0 := hB2.cell0
  have x1 := hB2.cell1
  have x2 := hB2.cell2
  have f0 := hB2.free 0
  have f1 := hB2.free 1
  have f2 := hB2.free 2
  have e1 : ((len : Int) != (len : Int)) = false := by simp
  have hset := hB2.set (.int .i64 (M : Int)) (.int .u8 255) (.slice ba SZ bc)
  have hbs := ((b2.setCell (p := ⟨w.heap.size, 0, none⟩) (Nat.le_refl _) (.int .i64 (M : Int))).setCell (p := ⟨w.heap.size, 1, none⟩) (Nat.le_refl _) (.int .u8 255)).setCell (p := ⟨w.heap.size, 2, none⟩) (Nat.le_refl _) (.slice ba SZ bc)
  have hkS : Kp (fun k => k = w.heap.size) (w1.alloc (.cells #[.int .i64 (M : Int), .int .u8 255, .slice ba SZ bc] 27)) _ := Kp.setCell (S := fun k => k = w.heap.size) (p := ⟨w.heap.size, 2, none⟩) (Kp.setCell (S := fun k => k = w.heap.size) (p := ⟨w.heap.size, 1, none⟩) (Kp.setCell (S := fun k => k = w.heap.size) (p := ⟨w.heap.size, 0, none⟩) (Kp.refl _ _) rfl (.int .i64 (M : Int))) rfl (.int .u8 255)) rfl (.slice ba SZ bc)
  have hlt := hB.lt
  have hoS := ((ho.below bl).kp hkS (fun k hk e => by have := (ho.lt k hk).1; omega)).le bb.size
  replace hset := hid hset
  replace hbs := hid hbs
  replace hoS := hid hoS
  clear hkS
  go_wp2
  (try simp only [Exit.inBlock, Exit.then])
  refine bodyPost_ret (results_rec2 rfl _ _ w.heap.size _ _ _ rfl hset.out) rfl ?_
  exact ⟨ba, bc, rfl, hoS.out, hbs.out⟩
end Go.Proofs.Ytcbgnodmamcmkaa
