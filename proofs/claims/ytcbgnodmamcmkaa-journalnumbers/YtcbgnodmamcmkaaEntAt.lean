/- What entryAt answers. -/
import Derived.Test.YtcbgnodmamcmkaaEnt
import Derived.Laws.Rows
namespace Go.Proofs.Ytcbgnodmamcmkaa
open Go.RowKit

theorem rd4_yes (l : List UInt8) (p : Int) (q : Nat) (hq : p = q) (h : q + 4 ≤ l.length) : rdB l p 4 = true ∧ rdV l p 4 = (numOf ((l.drop q).take 4) : Int) := by
  subst hq
  constructor
  · unfold rdB; exact decide_eq_true (by omega)
  · unfold rdV
    rw [if_pos (by omega)]
    simp

theorem rd4_no (l : List UInt8) (p : Int) (q : Nat) (hq : p = q) (h : l.length < q + 4) : rdB l p 4 = false := by
  subst hq; unfold rdB; exact decide_eq_false (by omega)

theorem rd_yes (l : List UInt8) (z : Int) (i n : Nat) (h : z = i) (hl : i + n ≤ l.length) : rdB l z n = true ∧ rdV l z n = (numOf ((l.drop i).take n) : Int) := by
  subst h
  constructor
  · unfold rdB; exact decide_eq_true (by omega)
  · unfold rdV; rw [if_pos (by omega), Int.toNat_natCast]
theorem rd_no (l : List UInt8) (z : Int) (i n : Nat) (h : z = i) (hl : l.length < i + n) : rdB l z n = false := by
  subst h
  unfold rdB; exact decide_eq_false (by omega)

def sizeAt (l : List UInt8) (p : Nat) : Nat := numOf ((l.drop p).take 4)
def numAt (l : List UInt8) (p : Nat) : Nat := numOf ((l.drop (p + 4)).take 8)
def kindAt (l : List UInt8) (p : Nat) : UInt8 := UInt8.ofNat (numOf ((l.drop (p + 12)).take 1))
def bodyAt (l : List UInt8) (p : Nat) : List UInt8 := (l.drop (p + 13)).take (sizeAt l p - 9)
def endAt (l : List UInt8) (p : Nat) : Nat := p + 8 + sizeAt l p

/-- An entry stands there. -/
structure EntAt (l : List UInt8) (p mb : Nat) : Prop where
  four : p + 4 ≤ l.length
  nine : 9 ≤ sizeAt l p
  most : sizeAt l p ≤ 9 + mb
  sum4 : p + 8 + sizeAt l p ≤ l.length
  crc : numOf ((l.drop (p + 4 + sizeAt l p)).take 4) = crcOf ((l.drop (p + 4)).take (sizeAt l p))
  num : numAt l p ≤ 4611686018427387904

/-- Whether an entry stands there can be told. -/
def entDec (l : List UInt8) (p mb : Nat) : Decidable (EntAt l p mb) :=
  decidable_of_decidable_of_iff (p := (p + 4 ≤ l.length ∧ 9 ≤ sizeAt l p ∧ sizeAt l p ≤ 9 + mb ∧ p + 8 + sizeAt l p ≤ l.length ∧ numOf ((l.drop (p + 4 + sizeAt l p)).take 4) = crcOf ((l.drop (p + 4)).take (sizeAt l p)) ∧ numAt l p ≤ 4611686018427387904))
    ⟨fun h => ⟨h.1, h.2.1, h.2.2.1, h.2.2.2.1, h.2.2.2.2.1, h.2.2.2.2.2⟩, fun h => ⟨h.four, h.nine, h.most, h.sum4, h.crc, h.num⟩⟩

/-- A record in a block. -/
def RBlk (w : World) (g : Nat) (x y z : Value) : Prop := w.heap[g]? = some (.cells #[x, y, z] 27 (0, 0))
theorem RBlk.new (w : World) (x y z : Value) : RBlk (w.alloc (.cells #[x, y, z] 27)) w.heap.size x y z := heap_alloc_new w _
theorem RBlk.lt {w : World} {g : Nat} {x y z : Value} (h : RBlk w g x y z) : g < w.heap.size := (Array.getElem?_eq_some_iff.1 h).1
theorem RBlk.below {w w' : World} {g : Nat} {x y z : Value} (h : RBlk w g x y z) (hb : Below w.heap.size w w') : RBlk w' g x y z := by unfold RBlk; rw [hb.block g h.lt]; exact h
theorem RBlk.cell0 {w : World} {g : Nat} {x y z : Value} (h : RBlk w g x y z) : w.cell? ⟨g, 0, none⟩ = some x := by unfold RBlk at h; simp [World.cell?, h]
theorem RBlk.cell1 {w : World} {g : Nat} {x y z : Value} (h : RBlk w g x y z) : w.cell? ⟨g, 1, none⟩ = some y := by unfold RBlk at h; simp [World.cell?, h]
theorem RBlk.cell2 {w : World} {g : Nat} {x y z : Value} (h : RBlk w g x y z) : w.cell? ⟨g, 2, none⟩ = some z := by unfold RBlk at h; simp [World.cell?, h]
theorem RBlk.free {w : World} {g : Nat} {x y z : Value} (h : RBlk w g x y z) (j : Nat) : w.frozen? ⟨g, j, none⟩ = false := by unfold RBlk at h; simp [World.frozen?, h]
theorem RBlk.set {w : World} {g : Nat} {x y z : Value} (h : RBlk w g x y z) (a b c : Value) : RBlk (((w.setCell ⟨g, 0, none⟩ a).setCell ⟨g, 1, none⟩ b).setCell ⟨g, 2, none⟩ c) g a b c := by
  unfold RBlk at *
  rw [setCell_eq_setRow w g 0 _ 27 (0, 0) _ h]
  have h1 := setRow_heap w g _ (#[x, y, z].setIfInBounds 0 a) 27 _ h
  rw [setCell_eq_setRow _ g 1 _ 27 (0, 0) _ h1]
  have h2 := setRow_heap _ g _ ((#[x, y, z].setIfInBounds 0 a).setIfInBounds 1 b) 27 _ h1
  rw [setCell_eq_setRow _ g 2 _ 27 (0, 0) _ h2, setRow_heap _ g _ _ 27 _ h2]
  simp

theorem info27 : (Try.prog.info? 27).map (·.size) = some 3 := by kernel_rfl

theorem results_rec3 {fn : Func} {p u v : Tmp} (h : fn.results = #[.cell p 27, .tmp u, .tmp v]) (tmps : Array Value) (w : World) (g : Nat) (x y z : Value)
    (hp : tmps.getD p undef = .pointer (some ⟨g, 0, none⟩)) (hg : RBlk w g x y z) :
    (results fn tmps).run Try.prog w = .ok (.tuple #[.agg #[x, y, z], tmps.getD u undef, tmps.getD v undef]) w := by
  have hp' : tmps[p]?.getD undef = .pointer (some ⟨g, 0, none⟩) := by simpa using hp
  simp [results, h, hp', asAddr, run_loadVar_row (P := Try.prog) w g 27 27 _ (0, 0) _ hg Try.underlying27 rfl info27]

set_option maxRecDepth 100000 in
set_option maxHeartbeats 2000000 in
theorem entat_no (a : Option Addr) (len cap p mb : Nat) (l : List UInt8) (w : World) (hl : l.length = len) (hlen : len ≤ 140737488355328) (hp : p ≤ 140737488355328) (hmb : mb ≤ 10000000) (hcap : len ≤ cap) (hat : At w a l) (hno : ¬ EntAt l p mb) :
    Calls Try.prog 85 #[.slice a len cap, .int .i64 (p : Int), .int .i64 (mb : Int)] w fun e w' => e = .returned (.tuple #[.agg #[.int .i64 0, .int .u8 0, .slice none 0 0], .int .i64 0, .bool false]) ∧ Below w.heap.size w w' := by
  have bb := below_lit w (.cells #[.int .i64 0, .int .u8 0, .slice none 0 0] 27)
  have hB := RBlk.new w (.int .i64 0) (.int .u8 0) (.slice none 0 0)
  have y0 := hB.cell0
  have y1 := hB.cell1
  have y2 := hB.cell2
  have f0 := hB.free 0
  have f1 := hB.free 1
  have f2 := hB.free 2
  have hBB := hB
  have bBB := bb
  by_cases h4 : l.length < p + 4
  · have e1 := rd_no l (p : Int) p 4 rfl h4
    go_enter Try.func85, Try.ntmps85
    go_wp2_with fail
    refine (u32_any a cap len l (p : Int) _ hl (by omega) (hat.below bb)).mono ?_
    rintro e w1 ⟨rfl, rfl⟩
    rw [e1]
    replace hl := hid hl
    go_wp2
    (try simp only [Exit.inBlock, Exit.then])
    refine bodyPost_ret (results_rec3 rfl _ _ w.heap.size (.int .i64 0) (.int .u8 0) (.slice none 0 0) rfl (by first | exact hBB | exact hBB.set _ _ _)) rfl ?_
    exact ⟨rfl, by first | exact bBB | exact ((bBB.setCell (p := ⟨w.heap.size, 0, none⟩) (Nat.le_refl _) _).setCell (p := ⟨w.heap.size, 1, none⟩) (Nat.le_refl _) _).setCell (p := ⟨w.heap.size, 2, none⟩) (Nat.le_refl _) _⟩
  · obtain ⟨e1, e2⟩ := rd_yes l (p : Int) p 4 rfl (by omega)
    obtain ⟨S, hS⟩ : ∃ S, S = sizeAt l p := ⟨_, rfl⟩
    rw [show numOf ((l.drop p).take 4) = S from hS.symm] at e2
    have hS32 : S < 4294967296 := by
      rw [hS]
      have := numOf_lt ((l.drop p).take 4)
      rw [List.length_take, List.length_drop, Nat.min_eq_left (by omega)] at this
      unfold sizeAt
      omega
    replace hS := hid hS
    by_cases h9 : S < 9
    · have hd1 : decide ((S : Int) < 9) = true := decide_eq_true (by omega)
      go_enter Try.func85, Try.ntmps85
      go_wp2_with fail
      refine (u32_any a cap len l (p : Int) _ hl (by omega) (hat.below bb)).mono ?_
      rintro e w1 ⟨rfl, rfl⟩
      rw [e1, e2]
      replace hl := hid hl
      go_wp2
      (try simp only [Exit.inBlock, Exit.then])
      refine bodyPost_ret (results_rec3 rfl _ _ w.heap.size (.int .i64 0) (.int .u8 0) (.slice none 0 0) rfl (by first | exact hBB | exact hBB.set _ _ _)) rfl ?_
      exact ⟨rfl, by first | exact bBB | exact ((bBB.setCell (p := ⟨w.heap.size, 0, none⟩) (Nat.le_refl _) _).setCell (p := ⟨w.heap.size, 1, none⟩) (Nat.le_refl _) _).setCell (p := ⟨w.heap.size, 2, none⟩) (Nat.le_refl _) _⟩
    · have hd1 : decide ((S : Int) < 9) = false := decide_eq_false (by omega)
      by_cases hm : 9 + mb < S
      · have hd2 : decide (9 + (mb : Int) < (S : Int)) = true := decide_eq_true (by omega)
        go_enter Try.func85, Try.ntmps85
        go_wp2_with fail
        refine (u32_any a cap len l (p : Int) _ hl (by omega) (hat.below bb)).mono ?_
        rintro e w1 ⟨rfl, rfl⟩
        rw [e1, e2]
        replace hl := hid hl
        go_wp2
        (try simp only [Exit.inBlock, Exit.then])
        refine bodyPost_ret (results_rec3 rfl _ _ w.heap.size (.int .i64 0) (.int .u8 0) (.slice none 0 0) rfl (by first | exact hBB | exact hBB.set _ _ _)) rfl ?_
        exact ⟨rfl, by first | exact bBB | exact ((bBB.setCell (p := ⟨w.heap.size, 0, none⟩) (Nat.le_refl _) _).setCell (p := ⟨w.heap.size, 1, none⟩) (Nat.le_refl _) _).setCell (p := ⟨w.heap.size, 2, none⟩) (Nat.le_refl _) _⟩
      · have hd2 : decide (9 + (mb : Int) < (S : Int)) = false := decide_eq_false (by omega)
        by_cases h8 : l.length < p + 4 + S + 4
        · have e3 := rd_no l ((p : Int) + 4 + (S : Int)) (p + 4 + S) 4 (by omega) h8
          go_enter Try.func85, Try.ntmps85
          go_wp2_with fail
          refine (u32_any a cap len l (p : Int) _ hl (by omega) (hat.below bb)).mono ?_
          rintro e w1 ⟨rfl, rfl⟩
          rw [e1, e2]
          have hl' := hid hl
          replace hl := hid hl
          go_wp2_with fail
          refine (u32_any a cap len l ((p : Int) + 4 + (S : Int)) _ hl'.out (by omega) (hat.below bb)).mono ?_
          rintro e w1 ⟨rfl, rfl⟩
          rw [e3]
          go_wp2
          (try simp only [Exit.inBlock, Exit.then])
          refine bodyPost_ret (results_rec3 rfl _ _ w.heap.size (.int .i64 0) (.int .u8 0) (.slice none 0 0) rfl (by first | exact hBB | exact hBB.set _ _ _)) rfl ?_
          exact ⟨rfl, by first | exact bBB | exact ((bBB.setCell (p := ⟨w.heap.size, 0, none⟩) (Nat.le_refl _) _).setCell (p := ⟨w.heap.size, 1, none⟩) (Nat.le_refl _) _).setCell (p := ⟨w.heap.size, 2, none⟩) (Nat.le_refl _) _⟩
        · obtain ⟨e3, e4⟩ := rd_yes l ((p : Int) + 4 + (S : Int)) (p + 4 + S) 4 (by omega) (by omega)
          obtain ⟨b, o, rfl, hc⟩ := hat (by intro e; rw [e] at h4; simp at h4)
          have hsz : p + 4 + S + 4 ≤ len := by omega
          have hw4 := (At.window hc (p + 4) S).below bb
          have hl4 : ((l.drop (p + 4)).take S).length = S := by rw [List.length_take, List.length_drop]; omega
          go_enter Try.func85, Try.ntmps85
          go_wp2_with fail
          refine (u32_any (some ⟨b, o, none⟩) cap len l (p : Int) _ hl (by omega) (hat.below bb)).mono ?_
          rintro e w1 ⟨rfl, rfl⟩
          rw [e1, e2]
          have hl' := hid hl
          replace hl := hid hl
          go_wp2_with fail
          refine (u32_any (some ⟨b, o, none⟩) cap len l ((p : Int) + 4 + (S : Int)) _ hl'.out (by omega) (hat.below bb)).mono ?_
          rintro e w1 ⟨rfl, rfl⟩
          rw [e3, e4]
          replace hl4 := hid hl4
          go_wp2_with fail
          refine (crc_any S (cap - (p + 4)) _ ((l.drop (p + 4)).take S) _ hl4.out (by omega) hw4).mono ?_
          rintro e w2 ⟨rfl, hb2⟩
          replace hBB := hBB.below hb2
          replace bBB := bnext bBB hb2
          have z0 := hBB.cell0
          have z1 := hBB.cell1
          have z2 := hBB.cell2
          have v0 := hBB.free 0
          have v1 := hBB.free 1
          have v2 := hBB.free 2
          clear y0 y1 y2 f0 f1 f2 hB
          obtain ⟨C, hC⟩ : ∃ C, C = numOf ((l.drop (p + 4 + S)).take 4) := ⟨_, rfl⟩
          obtain ⟨D, hD⟩ : ∃ D, D = crcOf ((l.drop (p + 4)).take S) := ⟨_, rfl⟩
          rw [← hC, ← hD]
          replace hC := hid hC
          replace hD := hid hD
          by_cases hcd : C = D
          · subst hcd
            have hne : ((C : Int) != (C : Int)) = false := by simp
            obtain ⟨N, hN⟩ : ∃ N, N = numOf ((l.drop (p + 4)).take 8) := ⟨_, rfl⟩
            have hbig : 4611686018427387904 < N := by
              rcases Nat.lt_or_ge 4611686018427387904 N with h | h
              · exact h
              · exact absurd ⟨by omega, by rw [← hS.out]; omega, by rw [← hS.out]; omega, by rw [← hS.out, hl'.out]; omega, by rw [← hS.out, ← hC.out, ← hD.out], by unfold numAt; rw [← hN]; exact h⟩ hno
            have hN64 : N < 18446744073709551616 := by
              rw [hN]
              have := numOf_lt ((l.drop (p + 4)).take 8)
              rw [List.length_take, List.length_drop, Nat.min_eq_left (by rw [hl'.out]; omega)] at this
              omega
            have hd5 : decide (4611686018427387904 < (N : Int)) = true := decide_eq_true (by omega)
            replace hN := hid hN
            have hat2 := (hat.below bb).below hb2
            have e7 : ((p : Int) + 4) = ((p + 4 : Nat) : Int) := by omega
            have e8 : ((p : Int) + 4 + 8) = ((p + 12 : Nat) : Int) := by omega
            obtain ⟨n1, n2⟩ := rd_yes l ((p : Int) + 4) (p + 4) 8 (by omega) (by rw [hl'.out]; omega)
            obtain ⟨n3, n4⟩ := rd_yes l ((p : Int) + 4 + 8) (p + 12) 1 (by omega) (by rw [hl'.out]; omega)
            replace e7 := hid e7
            replace e8 := hid e8
            go_wp2_with fail
            refine (u64_any (some ⟨b, o, none⟩) cap len l ((p : Int) + 4) _ hl'.out (by omega) hat2).mono ?_
            rintro e w3 ⟨rfl, rfl⟩
            rw [n1, n2, ← hN.out]
            go_wp2_with fail
            refine (u8_any (some ⟨b, o, none⟩) cap len l ((p : Int) + 4 + 8) _ hl'.out (by omega) hat2).mono ?_
            rintro e w3 ⟨rfl, rfl⟩
            rw [n3, n4]
            go_wp2
            (try simp only [Exit.inBlock, Exit.then])
            refine bodyPost_ret (results_rec3 rfl _ _ w.heap.size (.int .i64 0) (.int .u8 0) (.slice none 0 0) rfl (by first | exact hBB | exact hBB.set _ _ _)) rfl ?_
            exact ⟨rfl, by first | exact bBB | exact ((bBB.setCell (p := ⟨w.heap.size, 0, none⟩) (Nat.le_refl _) _).setCell (p := ⟨w.heap.size, 1, none⟩) (Nat.le_refl _) _).setCell (p := ⟨w.heap.size, 2, none⟩) (Nat.le_refl _) _⟩
          · have hne : ((C : Int) != (D : Int)) = true := by simp; omega
            go_wp2
            (try simp only [Exit.inBlock, Exit.then])
            refine bodyPost_ret (results_rec3 rfl _ _ w.heap.size (.int .i64 0) (.int .u8 0) (.slice none 0 0) rfl (by first | exact hBB | exact hBB.set _ _ _)) rfl ?_
            exact ⟨rfl, by first | exact bBB | exact ((bBB.setCell (p := ⟨w.heap.size, 0, none⟩) (Nat.le_refl _) _).setCell (p := ⟨w.heap.size, 1, none⟩) (Nat.le_refl _) _).setCell (p := ⟨w.heap.size, 2, none⟩) (Nat.le_refl _) _⟩

set_option maxRecDepth 100000 in
set_option maxHeartbeats 2000000 in
theorem entat_yes (a : Option Addr) (len cap p mb : Nat) (l : List UInt8) (w : World) (hl : l.length = len) (hlen : len ≤ 140737488355328) (hp : p ≤ 140737488355328) (hmb : mb ≤ 10000000) (hcap : len ≤ cap) (hat : At w a l) (h : EntAt l p mb) :
    Calls Try.prog 85 #[.slice a len cap, .int .i64 (p : Int), .int .i64 (mb : Int)] w fun e w' => ∃ ba bc, e = .returned (.tuple #[.agg #[.int .i64 (numAt l p : Int), .int .u8 ((kindAt l p).toNat : Int), .slice ba (sizeAt l p - 9) bc], .int .i64 (endAt l p : Int), .bool true]) ∧ Own w' w.heap.size (.slice ba (sizeAt l p - 9) bc) (bodyAt l p) ∧ Below w.heap.size w w' := by
  have bb := below_lit w (.cells #[.int .i64 0, .int .u8 0, .slice none 0 0] 27)
  have hB := RBlk.new w (.int .i64 0) (.int .u8 0) (.slice none 0 0)
  have y0 := hB.cell0
  have y1 := hB.cell1
  have y2 := hB.cell2
  have f0 := hB.free 0
  have f1 := hB.free 1
  have f2 := hB.free 2
  have hBB := hB
  have bBB := bb
  have h4 := h.four
  have g1 := h.nine
  have g2 := h.most
  have g3 := h.sum4
  have g4 := h.crc
  have g5 := h.num
  obtain ⟨e1, e2⟩ := rd_yes l (p : Int) p 4 rfl h4
  rw [show numOf ((l.drop p).take 4) = sizeAt l p from rfl] at e2
  obtain ⟨S, hS⟩ : ∃ S, S = sizeAt l p := ⟨_, rfl⟩
  rw [← hS] at g1 g2 g3 g4 e2
  have hS32 : S < 4294967296 := by omega
  have hd1 : decide ((S : Int) < 9) = false := decide_eq_false (by omega)
  have hd2 : decide (9 + (mb : Int) < (S : Int)) = false := decide_eq_false (by omega)
  obtain ⟨e3, e4⟩ := rd_yes l ((p : Int) + 4 + (S : Int)) (p + 4 + S) 4 (by omega) (by omega)
  rw [g4] at e4
  obtain ⟨b, o, rfl, hc⟩ := hat (by intro e; rw [e] at h4; simp at h4)
  have hsz : p + 4 + S + 4 ≤ len := by omega
  have hw4 := (At.window hc (p + 4) S).below bb
  have hl4 : ((l.drop (p + 4)).take S).length = S := by rw [List.length_take, List.length_drop]; omega
  have hlb : (bodyAt l p).length = S - 9 := by unfold bodyAt; rw [← hS, List.length_take, List.length_drop]; omega
  rw [← hS]
  replace hS := hid hS
  go_enter Try.func85, Try.ntmps85
  go_wp2_with fail
  refine (u32_any (some ⟨b, o, none⟩) cap len l (p : Int) _ hl (by omega) (hat.below bb)).mono ?_
  rintro e w1 ⟨rfl, rfl⟩
  rw [e1, e2]
  have hl' := hid hl
  replace hl := hid hl
  go_wp2_with fail
  refine (u32_any (some ⟨b, o, none⟩) cap len l ((p : Int) + 4 + (S : Int)) _ hl'.out (by omega) (hat.below bb)).mono ?_
  rintro e w1 ⟨rfl, rfl⟩
  rw [e3, e4]
  replace hl4 := hid hl4
  replace g4 := hid g4
  go_wp2_with fail
  refine (crc_any S (cap - (p + 4)) _ ((l.drop (p + 4)).take S) _ hl4.out (by omega) hw4).mono ?_
  rintro e w2 ⟨rfl, hb2⟩
  replace hBB := hBB.below hb2
  replace bBB := bnext bBB hb2
  have z0 := hBB.cell0
  have z1 := hBB.cell1
  have z2 := hBB.cell2
  have v0 := hBB.free 0
  have v1 := hBB.free 1
  have v2 := hBB.free 2
  clear y0 y1 y2 f0 f1 f2 hB
  obtain ⟨C, hC⟩ : ∃ C, C = crcOf ((l.drop (p + 4)).take S) := ⟨_, rfl⟩
  rw [← hC]
  replace hC := hid hC
  have hne : ((C : Int) != (C : Int)) = false := by simp
  have hd5 : decide (4611686018427387904 < (numAt l p : Int)) = false := decide_eq_false (by omega)
  have hat2 := (hat.below bb).below hb2
  have e7 : ((p : Int) + 4) = ((p + 4 : Nat) : Int) := by omega
  have e8 : ((p : Int) + 4 + 8) = ((p + 12 : Nat) : Int) := by omega
  obtain ⟨n1, n2⟩ := rd_yes l ((p : Int) + 4) (p + 4) 8 (by omega) (by rw [hl'.out]; omega)
  obtain ⟨n3, n4⟩ := rd_yes l ((p : Int) + 4 + 8) (p + 12) 1 (by omega) (by rw [hl'.out]; omega)
  replace e7 := hid e7
  replace e8 := hid e8
  go_wp2_with fail
  refine (u64_any (some ⟨b, o, none⟩) cap len l ((p : Int) + 4) _ hl'.out (by omega) hat2).mono ?_
  rintro e w3 ⟨rfl, rfl⟩
  rw [n1, n2, show numOf ((l.drop (p + 4)).take 8) = numAt l p from rfl]
  go_wp2_with fail
  refine (u8_any (some ⟨b, o, none⟩) cap len l ((p : Int) + 4 + 8) _ hl'.out (by omega) hat2).mono ?_
  rintro e w3 ⟨rfl, rfl⟩
  rw [n3, n4]
  obtain ⟨M, hM⟩ : ∃ M, M = numAt l p := ⟨_, rfl⟩
  rw [← hM] at g5 hd5 ⊢
  replace hM := hid hM
  have hkv : (numOf ((l.drop (p + 12)).take 1) : Int) = ((kindAt l p).toNat : Int) := by
    unfold kindAt
    have := numOf_lt ((l.drop (p + 12)).take 1)
    rw [List.length_take, List.length_drop, Nat.min_eq_left (by rw [hl'.out]; omega)] at this
    rw [UInt8.toNat_ofNat']
    omega
  rw [hkv]
  obtain ⟨kk, hkk⟩ : ∃ kk, kk = kindAt l p := ⟨_, rfl⟩
  rw [← hkk]
  replace hkk := hid hkk
  replace hkv := hid hkv
  have hk8 := kk.toNat_lt
  have hwb := ((At.window hc (p + 13) (S - 9)).below bb).below hb2
  rw [show (l.drop (p + 13)).take (S - 9) = bodyAt l p by unfold bodyAt; rw [← hS.out]] at hwb
  replace hlb := hid hlb
  go_wp2_with fail
  rw [show p + 4 + 9 = p + 13 by omega, show p + 4 + S - (p + 13) = S - 9 by omega]
  refine (clone_sl _ (cap - (p + 13)) (S - 9) (bodyAt l p) _ hlb.out (by omega) hwb).mono ?_
  rintro e w4 ⟨ba, bc, rfl, ho4, hb4⟩
  have hB4 := hBB.below hb4
  have b4 := bnext bBB hb4
  have x0 := hB4.cell0
  have x1 := hB4.cell1
  have x2 := hB4.cell2
  have u0 := hB4.free 0
  have u1 := hB4.free 1
  have u2 := hB4.free 2
  have hset := hB4.set (.int .i64 (M : Int)) (.int .u8 (kk.toNat : Int)) (.slice ba (S - 9) bc)
  have hbs := ((b4.setCell (p := ⟨w.heap.size, 0, none⟩) (Nat.le_refl _) (.int .i64 (M : Int))).setCell (p := ⟨w.heap.size, 1, none⟩) (Nat.le_refl _) (.int .u8 (kk.toNat : Int))).setCell (p := ⟨w.heap.size, 2, none⟩) (Nat.le_refl _) (.slice ba (S - 9) bc)
  have hkS : Kp (fun k => k = w.heap.size) w4 _ := Kp.setCell (S := fun k => k = w.heap.size) (p := ⟨w.heap.size, 2, none⟩) (Kp.setCell (S := fun k => k = w.heap.size) (p := ⟨w.heap.size, 1, none⟩) (Kp.setCell (S := fun k => k = w.heap.size) (p := ⟨w.heap.size, 0, none⟩) (Kp.refl _ _) rfl (.int .i64 (M : Int))) rfl (.int .u8 (kk.toNat : Int))) rfl (.slice ba (S - 9) bc)
  have hlt := hBB.lt
  have hoS := (ho4.kp hkS (fun k hk e => by have := (ho4.lt k hk).1; omega)).le bBB.size
  replace hset := hid hset
  replace hbs := hid hbs
  replace hoS := hid hoS
  clear z0 z1 z2 v0 v1 v2 hkS
  go_wp2
  (try simp only [Exit.inBlock, Exit.then])
  refine bodyPost_ret (results_rec3 rfl _ _ w.heap.size _ _ _ rfl hset.out) rfl ?_
  refine ⟨ba, bc, ?_, hoS.out, hbs.out⟩
  rw [← hM.out, ← hkk.out]
  have e9 : ((endAt l p : Nat) : Int) = (p : Int) + 4 + (S : Int) + 4 := by unfold endAt; rw [← hS.out]; omega
  rw [e9]
  rfl
end Go.Proofs.Ytcbgnodmamcmkaa
