/- ProfileTells, walked. -/
import Derived.Test.YticlpjpbjgfgmaaRp3
import Derived.Test.YticlpjpbjgfgmaaRp2
import Derived.Test.YticlpjpbjgfgmaaBackWalk
namespace Go.Proofs.Yticlpjpbjgfgmaa
open Go.RowKit

/-- A profile of at most 32 nodes of at most 4096 cuts. -/
def ShortP (R : List (List Cut)) : Prop := R.length ≤ 32 ∧ ∀ C ∈ R, C.length ≤ 4096
theorem shortP_nil : ShortP [] := ⟨by simp, fun C h => by cases h⟩
theorem adA_short {P : List (List Cut)} (hP : RightPr P) (on : Nat) (m p q : Int) : ShortP (adA P on m p q).1 := by
  by_cases he : (adA P on m p q).2 = 0
  · obtain ⟨h3, h4⟩ := adA_zero he
    rw [h4]
    refine ⟨by simpa using hP.2.1, fun C hC => ?_⟩
    obtain ⟨i, hi, rfl⟩ := List.mem_map.1 hC
    rw [List.mem_range] at hi
    have h5 := h3 i hi
    unfold nodeA at h5 ⊢
    split at h5
    · rename_i hb
      rw [if_pos hb]
      exact (add_good h5).2.1.2.1
    · rename_i hb
      rw [if_neg hb]
      exact (hP.2.2 _ (getD_mem hi)).2.1
  · unfold adA at he ⊢
    split at he
    · rename_i i hi
      simp only; exact shortP_nil
    · exact absurd rfl he
theorem takeA_short (P : List (List Cut)) (on : Nat) (c p q : Int) : ShortP (takeA P on c p q).1 := by
  unfold takeA
  split
  · rename_i h; exact adA_short h.1 _ _ _ _
  · exact shortP_nil
theorem giveA_short (P : List (List Cut)) (on : Nat) (c p q : Int) : ShortP (giveA P on c p q).1 := by
  unfold giveA
  split
  · rename_i h; exact adA_short h.1 _ _ _ _
  · exact shortP_nil
theorem newA_short (Z : List Int) : ShortP (newA Z).1 := by
  unfold newA
  split
  · rename_i h
    refine ⟨by simpa using h.2.1, fun C hC => ?_⟩
    obtain ⟨x, _, rfl⟩ := List.mem_map.1 hC
    simp
  · exact shortP_nil

/-- Two answers that tell the same are the same. -/
theorem psame_told {a b : Option Addr} {n c d : Nat} {L M : List Nd1} {R : List (List Cut)} {w : World} (hR : ShortP R) (hn : R.length = n) (hL : cutsOf L = R) (hM : cutsOf M = R) (h2 : PAt w a L) (h3 : PAt w b M) :
    Calls Try.prog 18 #[.slice a n c, .slice b n d] w fun e w' => e = .returned (.bool true) ∧ Below w.heap.size w w' :=
  psame_any a b n c d L M w (by rw [← cutsOf_len, hL]; exact hn) (by have := hR.1; omega) (fun x hx => by have := hR.2 x.C (by rw [← hL]; exact List.mem_map.2 ⟨x, hx, rfl⟩); omega) (by rw [hL, hM]) h2 h3

/-- A profile of the call's own whose cuts may read anything. -/
structure QW (w : World) (base : Nat) (v : Value) (L : List Nd1) : Prop where
  own : w.ownsRow base 38 1 v L.length (L.map Nd1.val)
  inner : ∀ x ∈ L, ∃ xs, w.ownsRow base 40 2 (.slice x.a x.C.length x.c) x.C.length xs
  off : ∀ x ∈ L, ∀ y, x.a = some y → v.ownBlock ≠ some y.block

theorem POwn.qw {w : World} {base : Nat} {v : Value} {L : List Nd1} (h : POwn w base v L) : QW w base v L := ⟨h.own, fun x hx => ⟨_, h.inner x hx⟩, h.off⟩

theorem QW.row {w : World} {base n c : Nat} {a : Option Addr} {L : List Nd1} (h : QW w base (.slice a n c) L) {i : Nat} (hi : i < L.length) : ∃ g, a = some ⟨g, 0, none⟩ ∧ w.cell? ⟨g, i, none⟩ = some (.slice L[i].a L[i].C.length L[i].c) := by
  have ho := h.own
  rcases ho.2 with ⟨hv, h0⟩ | ⟨g, cap, cur, hv, _⟩
  · omega
  · simp only [Value.slice.injEq] at hv
    obtain ⟨rfl, rfl, rfl⟩ := hv
    refine ⟨g, rfl, ?_⟩
    have := World.ownsRow.cellAt ho i (by omega)
    rw [this, List.getElem?_map, List.getElem?_eq_getElem hi]
    rfl

theorem QW.place {w : World} {base : Nat} {v : Value} {L : List Nd1} (h : QW w base v L) {x : Nd1} (hx : x ∈ L) (h0 : 0 < x.C.length) : ∃ g, x.a = some ⟨g, 0, none⟩ ∧ base ≤ g := by
  obtain ⟨xs, ho⟩ := h.inner x hx
  rcases ho.2 with ⟨hv, hz⟩ | ⟨g, cap, cur, hv, hb, _⟩
  · omega
  · simp only [Value.slice.injEq] at hv
    exact ⟨g, hv.1, hb⟩

theorem QW.cut {w : World} {base : Nat} {v : Value} {L : List Nd1} (h : QW w base v L) {x : Nd1} (hx : x ∈ L) {g : Nat} (ha : x.a = some ⟨g, 0, none⟩) {i : Nat} (hi : i < x.C.length) : ∃ u, w.cell? ⟨g, i * 2 + 1, none⟩ = some u ∧ w.frozen? ⟨g, i * 2 + 1, none⟩ = false := by
  obtain ⟨xs, ho⟩ := h.inner x hx
  rw [ha] at ho
  have hl := ho.1
  have y0 := World.ownsRow.cellAt ho (i * 2 + 1) (by omega)
  rw [List.getElem?_eq_getElem (show i * 2 + 1 < xs.length by omega)] at y0
  exact ⟨_, y0, World.ownsRow.frozenAt ho _⟩

theorem QW.set {w : World} {base : Nat} {v : Value} {L : List Nd1} (h : QW w base v L) {x : Nd1} (hx : x ∈ L) {g : Nat} (ha : x.a = some ⟨g, 0, none⟩) (i : Nat) (u : Value) : QW (w.setCell ⟨g, i, none⟩ u) base v L := by
  have K : Kp (fun k => k = g) w (w.setCell ⟨g, i, none⟩ u) := Kp.setCell (S := fun k => k = g) (p := ⟨g, i, none⟩) (Kp.refl _ _) rfl _
  refine ⟨owns_kp h.own K ?_, ?_, h.off⟩
  · intro k hk e
    subst e
    exact h.off x hx _ ha hk
  · intro y hy
    obtain ⟨ys, ho⟩ := h.inner y hy
    rcases ho.2 with ⟨hv, hz⟩ | ⟨g', cap', cur, hv, hb, _⟩
    · exact ⟨ys, owns_kp ho K (by rw [hv]; intro k hk; simp [Value.ownBlock] at hk)⟩
    · by_cases e : g' = g
      · subst e
        simp only [Value.slice.injEq] at hv
        rw [hv.1] at ho ⊢
        exact ⟨_, (World.ownsRow.stored ho i u).1⟩
      · refine ⟨ys, owns_kp ho K ?_⟩
        rw [hv]
        intro k hk hs
        simp [Value.ownBlock] at hk
        omega

set_option maxRecDepth 100000 in
set_option maxHeartbeats 4000000 in
theorem tells_any (z : Option Addr) (nz cz : Nat) (Z : List Int) (s : Option Addr) (n c0 : Nat) (L : List Nd1) (on : Nat) (c p q : Int) (w : World) (hz : Z.length = nz) (hlz : nz ≤ 4611686018427387904) (hatz : CAt w z (Z.map Nd.I)) (hn : L.length = n) (hl : n ≤ 4611686018427387904) (hs : ∀ x ∈ L, x.C.length ≤ 140737488355328) (hon : on < 4294967296) (hat : PAt w s L) :
    Calls Try.prog 3 #[.slice z nz cz, .slice s n c0, .agg #[.int .u32 (on : Int), .int .i64 c, .int .i64 p, .int .i64 q]] w fun e w' => e = .returned (.bool true) ∧ Below w.heap.size w w' := by
  have b0 := below_lit w (.cells #[.int .u32 (on : Int), .int .i64 c, .int .i64 p, .int .i64 q] 27)
  have X0 := hid (XBlk.new w on c p q)
  have kB := big_any s n c0 L _ hn hl hs (hat.below b0)
  have P0 := hid (hat.below b0)
  have Z0 := hid (hatz.below b0)
  have kW := fun w => awake_any w
  have hs2 : ∀ x ∈ L, x.C.length ≤ 4611686018427387904 := fun x hx => by have := hs x hx; omega
  clear hs hat hatz
  replace hn := hid hn
  replace hz := hid hz
  replace hs2 := hid hs2
  go_enter Try.func3, Try.ntmps3
  go_wp2_with fail
  generalize w.alloc (.cells #[.int .u32 (on : Int), .int .i64 c, .int .i64 p, .int .i64 q] 27) = w0 at *
  refine kB.mono ?_
  rintro e w1 ⟨b, rfl, rfl, hbig⟩
  have B0 := b0
  clear b0 kB
  cases b with
  | true =>
    clear hbig
    go_wp2_with fail
    refine (kW _).mono ?_
    rintro e w2 ⟨rfl, hb2⟩
    have B2 := bnext B0 hb2
    go_wp2
    go_ret
    exact ⟨rfl, B2⟩
  | false =>
    have hbg := hid (hbig rfl)
    clear hbig
    have hn40 : n ≤ 40 := by have := hbg.out.1; rw [hn.out] at this; exact this
    have kC := rcopy_any s n c0 L w1 hn.out (by omega) (fun x hx => by have := hbg.out.2 x hx; omega) P0.out
    unfold CpTold at kC
    rw [hn.out] at kC
    go_wp2_with fail
    refine kC.mono ?_
    rintro e w2 ⟨a1, k1, M, rfl, hM, O1, b2⟩
    have hMn := hid (show M.length = n by rw [← cutsOf_len, hM, cutsOf_len]; exact hn.out)
    have hMs := hid (show ∀ x ∈ M, x.C.length ≤ 4611686018427387904 from fun x hx => by
      have h1 : x.C ∈ cutsOf M := List.mem_map.2 ⟨x, hx, rfl⟩
      rw [hM] at h1
      obtain ⟨y, hy, e⟩ := List.mem_map.1 h1
      rw [← e]; exact hs2.out y hy)
    replace hM := hid hM
    have X2 := hid (X0.out.below b2)
    have P2 := hid (P0.out.below b2)
    have Z2 := hid (Z0.out.below b2)
    have I2 := hid O1.pat
    have B2 := bnext B0 b2
    clear b2 B0 Z0 P0 X0 O1 kC hbg
    have kX := new_any z nz cz Z w2 hz.out hlz Z2.out
    unfold PTold at kX
    generalize hr3 : (newA Z).1.length = lA at kX
    replace hr3 := hid hr3
    generalize he3 : (newA Z).2 = eA at kX
    replace he3 := hid he3
    go_wp2_with fail
    refine kX.mono ?_
    rintro e w3 ⟨a3, k3, L3, rfl, g3, O3, b3⟩
    replace g3 := hid g3
    replace O3 := hid O3
    have X3 := hid (X2.out.below b3)
    have P3 := hid (P2.out.below b3)
    have Z3 := hid (Z2.out.below b3)
    have I3 := hid (I2.out.below b3)
    have B3 := bnext B2 b3
    clear kX X2 P2 Z2 I2 B2 b3
    have A3 := hid O3.out.pat
    have kX := rnew_any z nz cz Z w3 hz.out hlz Z3.out
    unfold PTold at kX
    rw [hr3.out, he3.out] at kX
    go_wp2_with fail
    refine kX.mono ?_
    rintro e w4 ⟨a4, k4, L4, rfl, g4, O4, b4⟩
    replace g4 := hid g4
    have X4 := hid (X3.out.below b4)
    have P4 := hid (P3.out.below b4)
    have I4 := hid (I3.out.below b4)
    have A4 := hid (A3.out.below b4)
    have B4 := bnext B3 b4
    clear kX X3 P3 Z3 I3 A3 B3 b4
    have C4 := hid O4.pat
    have x0 := X4.out.c0
    have x1 := X4.out.c1
    have x2 := X4.out.c2
    have x3 := X4.out.c3
    have kX := free_any a1 n k1 M on p q c w4 hMn.out hl hMs.out hon I4.out
    have kY := fun w (h : PAt w s L) => rfree_any s n c0 L on p q c w hn.out hl hs2.out hon h
    rw [hM.out] at kX
    generalize (freeA (cutsOf L) on p q c).1 = f1 at *
    generalize (freeA (cutsOf L) on p q c).2 = f2 at *
    go_wp2_with fail
    refine kX.mono ?_
    rintro e w5 ⟨rfl, b5⟩
    have X5 := hid (X4.out.below b5)
    have P5 := hid (P4.out.below b5)
    have I5 := hid (I4.out.below b5)
    have A5 := hid (A4.out.below b5)
    have C5 := hid (C4.out.below b5)
    have B5 := bnext B4 b5
    clear kX X4 P4 I4 A4 C4 B4 b5 x0 x1 x2 x3
    have x0 := X5.out.c0
    have x1 := X5.out.c1
    have x2 := X5.out.c2
    have x3 := X5.out.c3
    have kX := kY w5 P5.out
    clear kY
    go_wp2_with fail
    refine kX.mono ?_
    rintro e w6 ⟨rfl, b6⟩
    have X6 := hid (X5.out.below b6)
    have P6 := hid (P5.out.below b6)
    have I6 := hid (I5.out.below b6)
    have A6 := hid (A5.out.below b6)
    have C6 := hid (C5.out.below b6)
    have B6 := bnext B5 b6
    clear kX X5 P5 I5 A5 C5 B5 b6 x0 x1 x2 x3
    have x0 := X6.out.c0
    have x1 := X6.out.c1
    have x2 := X6.out.c2
    have x3 := X6.out.c3
    have kX := take_any a1 n k1 M on c p q w6 hMn.out hl hMs.out hon I6.out
    unfold PTold at kX
    generalize hr7 : (takeA (cutsOf M) on c p q).1.length = lQ at kX
    replace hr7 := hid hr7
    generalize he7 : (takeA (cutsOf M) on c p q).2 = eQ at kX
    replace he7 := hid he7
    go_wp2_with fail
    refine kX.mono ?_
    rintro e w7 ⟨a7, k7, L7, rfl, g7, O7, b7⟩
    replace g7 := hid g7
    replace O7 := hid O7
    have X7 := hid (X6.out.below b7)
    have P7 := hid (P6.out.below b7)
    have I7 := hid (I6.out.below b7)
    have A7 := hid (A6.out.below b7)
    have C7 := hid (C6.out.below b7)
    have B7 := bnext B6 b7
    have T7 := b7
    clear kX X6 A6 C6 b7 x0 x1 x2 x3
    have Q7 := hid O7.out.pat
    have S7 := O7
    have x0 := X7.out.c0
    have x1 := X7.out.c1
    have x2 := X7.out.c2
    have x3 := X7.out.c3
    have kX := rtake_any s n c0 L on c p q w7 hn.out hl hs2.out hon P7.out
    unfold PTold at kX
    rw [← hM.out, hr7.out, he7.out] at kX
    go_wp2_with fail
    refine kX.mono ?_
    rintro e w8 ⟨a8, k8, L8, rfl, g8, O8, b8⟩
    replace g8 := hid g8
    have X8 := hid (X7.out.below b8)
    have P8 := hid (P7.out.below b8)
    have I8 := hid (I7.out.below b8)
    have A8 := hid (A7.out.below b8)
    have C8 := hid (C7.out.below b8)
    have Q8 := hid (Q7.out.below b8)
    have S8 := hid (S7.out.below b8)
    have B8 := bnext B7 b8
    have T8 := bnext T7 b8
    clear kX X7 P7 I7 A7 C7 Q7 S7 T7 B7 b8 x0 x1 x2 x3
    have R8 := hid O8.pat
    have x0 := X8.out.c0
    have x1 := X8.out.c1
    have x2 := X8.out.c2
    have x3 := X8.out.c3
    have kX := give_any a1 n k1 M on c p q w8 hMn.out hl hMs.out hon I8.out
    unfold PTold at kX
    generalize hr9 : (giveA (cutsOf M) on c p q).1.length = lU at kX
    replace hr9 := hid hr9
    generalize he9 : (giveA (cutsOf M) on c p q).2 = eU at kX
    replace he9 := hid he9
    go_wp2_with fail
    refine kX.mono ?_
    rintro e w9 ⟨a9, k9, L9, rfl, g9, O9, b9⟩
    replace g9 := hid g9
    replace O9 := hid O9
    have X9 := hid (X8.out.below b9)
    have P9 := hid (P8.out.below b9)
    have I9 := hid (I8.out.below b9)
    have A9 := hid (A8.out.below b9)
    have C9 := hid (C8.out.below b9)
    have Q9 := hid (Q8.out.below b9)
    have S9 := hid (S8.out.below b9)
    have R9 := hid (R8.out.below b9)
    have B9 := bnext B8 b9
    have T9 := bnext T8 b9
    clear kX X8 P8 I8 A8 C8 Q8 S8 R8 T8 B8 b9 x0 x1 x2 x3
    have U9 := hid O9.out.pat
    have x0 := X9.out.c0
    have x1 := X9.out.c1
    have x2 := X9.out.c2
    have x3 := X9.out.c3
    have kX := rgive_any s n c0 L on c p q w9 hn.out hl hs2.out hon P9.out
    unfold PTold at kX
    rw [← hM.out, hr9.out, he9.out] at kX
    go_wp2_with fail
    refine kX.mono ?_
    rintro e w10 ⟨a10, k10, L10, rfl, g10, O10, b10⟩
    replace g10 := hid g10
    have X10 := hid (X9.out.below b10)
    have P10 := hid (P9.out.below b10)
    have I10 := hid (I9.out.below b10)
    have A10 := hid (A9.out.below b10)
    have C10 := hid (C9.out.below b10)
    have Q10 := hid (Q9.out.below b10)
    have S10 := hid (S9.out.below b10)
    have R10 := hid (R9.out.below b10)
    have U10 := hid (U9.out.below b10)
    have B10 := bnext B9 b10
    have T10 := bnext T9 b10
    clear kX X9 P9 I9 A9 C9 Q9 S9 R9 U9 T9 B9 b10 x0 x1 x2 x3
    have V10 := hid O10.pat
    have kX := psame_told (c := k3) (d := k4) (newA_short Z) hr3.out g3.out g4.out A10.out C10.out
    go_wp2_with fail
    refine kX.mono ?_
    rintro e w11 ⟨rfl, b11⟩
    have P11 := hid (P10.out.below b11)
    have I11 := hid (I10.out.below b11)
    have Q11 := hid (Q10.out.below b11)
    have S11 := hid (S10.out.below b11)
    have R11 := hid (R10.out.below b11)
    have U11 := hid (U10.out.below b11)
    have V11 := hid (V10.out.below b11)
    have B11 := bnext B10 b11
    have T11 := bnext T10 b11
    clear kX X10 P10 I10 A10 C10 Q10 S10 R10 U10 V10 T10 B10 b11
    have kX := psame_told (c := k7) (d := k8) (takeA_short _ _ _ _ _) hr7.out g7.out (by rw [g8.out, hM.out]) Q11.out R11.out
    go_wp2_with fail
    refine kX.mono ?_
    rintro e w12 ⟨rfl, b12⟩
    have P12 := hid (P11.out.below b12)
    have I12 := hid (I11.out.below b12)
    have S12 := hid (S11.out.below b12)
    have U12 := hid (U11.out.below b12)
    have V12 := hid (V11.out.below b12)
    have B12 := bnext B11 b12
    have T12 := bnext T11 b12
    clear kX P11 I11 Q11 S11 R11 U11 V11 T11 B11 b12
    have kX := psame_told (c := k9) (d := k10) (giveA_short _ _ _ _ _) hr9.out g9.out (by rw [g10.out, hM.out]) U12.out V12.out
    go_wp2_with fail
    refine kX.mono ?_
    rintro e w13 ⟨rfl, b13⟩
    have P13 := hid (P12.out.below b13)
    have I13 := hid (I12.out.below b13)
    have S13 := hid (S12.out.below b13)
    have B13 := bnext B12 b13
    have T13 := bnext T12 b13
    clear kX P12 I12 S12 U12 V12 T12 B12 b13
    have kX := pright_any a1 n k1 M w13 hMn.out hl hMs.out I13.out
    have kY := fun w (h : PAt w s L) => rright_any s n c0 L w hn.out hl hs2.out h
    rw [hM.out] at kX
    generalize rightPB (cutsOf L) = rb at *
    go_wp2_with fail
    refine kX.mono ?_
    rintro e w14 ⟨rfl, b14⟩
    have P14 := hid (P13.out.below b14)
    have S14 := hid (S13.out.below b14)
    have B14 := bnext B13 b14
    have T14 := bnext T13 b14
    clear kX P13 I13 S13 T13 B13 b14
    have kX := kY w14 P14.out
    clear kY
    go_wp2_with fail
    refine kX.mono ?_
    rintro e w15 ⟨rfl, b15⟩
    have S15 := hid (S14.out.below b15)
    have B15 := bnext B14 b15
    have T15 := bnext T14 b15
    clear kX P14 S14 T14 B14 b15
    have hQn := hid (show L7.length = lQ by rw [← cutsOf_len, g7.out]; exact hr7.out)
    have hQ32 : lQ ≤ 32 := by have := (takeA_short (cutsOf M) on c p q).1; rw [hr7.out] at this; exact this
    have hq0 := hid S15.out.qw
    go_wp2_with fail
    go_loopw [24] (fun i wr => ∃ j : Nat, j ≤ lQ ∧ i = .int .i64 (j : Int) ∧ Hid (QW wr w6.heap.size (.slice a7 lQ k7) L7) ∧ Below w6.heap.size w6 wr) (fun i _ => lQ - (intOf i).toNat)
    case atStart => exact ⟨0, Nat.zero_le _, rfl, hq0, T15⟩
    case round =>
      obtain ⟨j, hj, rfl, hq, hb⟩ := hrel
      clear hq0 T15
      by_cases hlt : j < lQ
      · have hjL : j < L7.length := by rw [hQn.out]; exact hlt
        have hmem := hid (List.getElem_mem hjL)
        obtain ⟨g, e, _⟩ := hq.out.row hjL
        subst e
        have hrow := hid (fun wr (h : QW wr w6.heap.size (.slice (some ⟨g, 0, none⟩) lQ k7) L7) => by
          obtain ⟨g', e', h'⟩ := h.row hjL
          cases e'
          exact h')
        have hcl : L7[j].C.length ≤ 4611686018427387904 := by have := (takeA_short (cutsOf M) on c p q).2 L7[j].C (by rw [← g7.out]; exact List.mem_map.2 ⟨_, hmem.out, rfl⟩); omega
        have hset := hid (fun wr (h : QW wr w6.heap.size (.slice (some ⟨g, 0, none⟩) lQ k7) L7) (i : Nat) (hi : i < L7[j].C.length) => show ∃ g' u, L7[j].a = some ⟨g', 0, none⟩ ∧ w6.heap.size ≤ g' ∧ wr.cell? ⟨g', i * 2 + 1, none⟩ = some u ∧ wr.frozen? ⟨g', i * 2 + 1, none⟩ = false ∧ QW (wr.setCell ⟨g', i * 2 + 1, none⟩ (.int .i64 99)) w6.heap.size (.slice (some ⟨g, 0, none⟩) lQ k7) L7 by
          obtain ⟨g', h1, h2⟩ := h.place hmem.out (by omega)
          obtain ⟨u, h3, h4⟩ := h.cut hmem.out h1 hi
          exact ⟨g', u, h1, h2, h3, h4, h.set hmem.out h1 _ _⟩)
        generalize L7[j].C.length = lc at *
        generalize L7[j].a = la at *
        generalize L7[j].c = lk at *
        go_wp2_with fail
        go_loopw [25] (fun i wr => ∃ y : Nat, y ≤ lc ∧ i = .int .i64 (y : Int) ∧ Hid (QW wr w6.heap.size (.slice (some ⟨g, 0, none⟩) lQ k7) L7) ∧ Below w6.heap.size w6 wr) (fun i _ => lc - (intOf i).toNat)
        case atStart => exact ⟨0, Nat.zero_le _, rfl, hq, hb⟩
        case round =>
          obtain ⟨y, hy, rfl, hq2, hb2⟩ := hrel
          clear hq hb
          have y0 := hrow.out _ hq2.out
          by_cases hly : y < lc
          · obtain ⟨g', u, e, hg', y1, f1, hq3⟩ := hset.out _ hq2.out y hly
            subst e
            have K2 : Kp (fun k => k = g') wr (wr.setCell ⟨g', y * 2 + 1, none⟩ (.int .i64 99)) := Kp.setCell (S := fun k => k = g') (p := ⟨g', y * 2 + 1, none⟩) (Kp.refl _ _) rfl _
            have hb3 := hid (hb2.trans (K2.below (fun k e => by omega) hb2.size))
            clear K2
            replace hq3 := hid hq3
            go_wp2_with fail
            go_roundw
            case rel => exact ⟨y + 1, by omega, by go_num, hq3, hb3.out⟩
            case measure => simp [intOf]; omega
          · have hye : y = lc := by omega
            subst hye
            go_wp2_with fail
            go_roundw
            case rel => exact ⟨j + 1, by omega, by go_num, hq2, hb2⟩
            case measure => simp [intOf]; omega
      · have hje : j = lQ := by omega
        subst hje
        have kS := psame_any a1 s n k1 c0 M L wr hMn.out hl hMs.out hM.out (I6.out.below hb) (P6.out.below hb)
        have BB := bnext B6 hb
        go_wp2_with fail
        refine kS.mono ?_
        rintro e w15 ⟨rfl, b15⟩
        have B15 := bnext BB b15
        go_wp2_with fail
        refine (kW _).mono ?_
        rintro e w16 ⟨rfl, b16⟩
        have B16 := bnext B15 b16
        go_wp2
        go_ret
        exact ⟨rfl, B16⟩

end Go.Proofs.Yticlpjpbjgfgmaa
