/- All calls, beside the document's own. -/
import Derived.Test.YtphkdjacladcpaaAwk
import Derived.Test.YtphkdjacladcpaaCj
namespace Go.Proofs.Ytphkdjacladcpaa
open Go.RowKit
set_option linter.unusedVariables false
set_option linter.unusedSimpArgs false

theorem owns_max {w : World} {base e size n c : Nat} {a : Option Addr} {xs : List Value} (h : w.ownsRow base e size (.slice a n c) n xs) : c ≤ 9223372036854775807 := by
  rcases h.2 with ⟨e, _⟩ | ⟨g, cap, cur, e, _, _, _, h2, _⟩
  · simp only [Value.slice.injEq] at e; omega
  · simp only [Value.slice.injEq] at e
    rw [e.2.2]
    unfold maxLen at h2
    omega
theorem ends_re (j : Job) (x : Option Addr) (y : Nat) : (j.re x y).id = j.id ∧ (j.re x y).st = j.st := ⟨rfl, rfl⟩
theorem lk_re : ∀ {A B : List (Job × List Dp)} (_ : ReJ A B) (id : Int), (lk (B.map (·.1)) id).map (·.st) = (lk (A.map (·.1)) id).map (·.st)
  | [], [], _, id => rfl
  | p :: r, q :: t, h, id => by
    obtain ⟨⟨x, y, hq⟩, _, ht⟩ := h
    have ih := lk_re ht id
    unfold lk at ih ⊢
    simp only [List.map_cons, List.find?_cons]
    rw [hq, (ends_re p.1 x y).1]
    cases decide (p.1.id = id) with
    | true => rfl
    | false => exact ih
  | p :: r, [], h, _ => by cases h
  | [], q :: t, h, _ => by cases h
theorem fateJ_st {K : Int} {a b : Option Job} (h : a.map (·.st) = b.map (·.st)) : fateJ K a = fateJ K b := by
  cases a <;> cases b <;> simp at h
  · rfl
  · unfold fateJ; dsimp only; rw [h]
theorem fate_re {A B : List (Job × List Dp)} (h : ReJ A B) (d : Dp) : fate d (B.map (·.1)) = fate d (A.map (·.1)) := fateJ_st (lk_re h d.2)
theorem holds_re {A B : List (Job × List Dp)} (h : ReJ A B) (D : List Dp) : holdsP D (B.map (·.1)) = holdsP D (A.map (·.1)) := by
  unfold holdsP
  congr 2
  funext d
  unfold heldB
  rw [fate_re h]
theorem never_re {A B : List (Job × List Dp)} (h : ReJ A B) (D : List Dp) : neverP D (B.map (·.1)) = neverP D (A.map (·.1)) := by
  unfold neverP
  congr 1
  funext d
  unfold lostB
  rw [fate_re h]

set_option maxRecDepth 100000 in
set_option maxHeartbeats 4000000 in
theorem tells_any (a c : Option Addr) (n cn k ck : Nat) (D : List Dp) (M : List (Job × List Dp)) (next : Int) (w : World) (hD : D.length = n) (hM : M.length = k) (lD : n * 16 ≤ 140737488355328) (lM : k * 184 ≤ 140737488355328) (hatD : DAt w a D) (hatM : JAt w c (M.map (·.1))) (hin : JIn w M) :
    Calls Try.prog 3 #[.slice a n cn, .slice c k ck, .int .i64 next] w fun e w' => e = .returned (.bool true) ∧ Below w.heap.size w w' := by
  have kW := fun w => awake_any w
  have hL : (M.map (·.1)).length = k := by rw [List.length_map]; exact hM
  by_cases h1 : 300 < k
  · have d1 : (300 : Int) < (k : Int) := by omega
    go_enter Try.func3, Try.ntmps3
    go_wp2_with fail
    refine (kW _).mono ?_
    rintro e w1 ⟨rfl, hb1⟩
    go_wp2_with fail
    go_ret
    exact ⟨rfl, hb1⟩
  have d1 : ¬ (300 : Int) < (k : Int) := by omega
  by_cases h2 : 300 < n
  · have d2 : (300 : Int) < (n : Int) := by omega
    go_enter Try.func3, Try.ntmps3
    go_wp2_with fail
    refine (kW _).mono ?_
    rintro e w1 ⟨rfl, hb1⟩
    go_wp2_with fail
    go_ret
    exact ⟨rfl, hb1⟩
  have d2 : ¬ (300 : Int) < (n : Int) := by omega
  have kC := copydeps a n cn D w hD lD hatD
  have kJ := fun wx (hb : Below w.heap.size w wx) => copyJ c k ck M wx hM lM (hatM.below hb) (hin.below hb)
  have kR := fun wx (hb : Below w.heap.size w wx) => rright_any a n cn D next wx hD (by omega) (hatD.below hb)
  have kH := fun wx (hb : Below w.heap.size w wx) => rholds_any a n cn D c k ck (M.map (·.1)) wx hD (by omega) (hatD.below hb) hL (by omega) (hatM.below hb)
  have kN := fun wx (hb : Below w.heap.size w wx) => rnever_any a n cn D c k ck (M.map (·.1)) wx hD (by omega) (hatD.below hb) hL (by omega) (hatM.below hb)
  replace kJ := hid kJ
  replace kR := hid kR
  replace kH := hid kH
  replace kN := hid kN
  replace hD := hid hD
  replace hM := hid hM
  replace hL := hid hL
  replace hatD := hid hatD
  replace hatM := hid hatM
  replace hin := hid hin
  go_enter Try.func3, Try.ntmps3
  go_wp2_with fail
  refine kC.mono ?_
  rintro e w1 ⟨ra, rc, rfl, hrc, ho, hb1⟩
  go_wp2_with fail
  refine (kJ.out _ hb1).mono ?_
  rintro e w2 ⟨rb, rd, M', rfl, hrd, hJ, hre, hb2⟩
  have B2 := bnext hb1 hb2
  have ho2 := ho.below hb2
  have hmx : rc ≤ 9223372036854775807 := by
    unfold DOwn at ho
    rw [hD.out] at ho
    exact owns_max ho
  have hD2 := ho2.dat
  have hL2 : (M'.map (·.1)).length = k := by rw [List.length_map, reJ_len hre]; exact hM.out
  have hJ2 := hJ.jat
  have qR := fun wx (hb : Below w2.heap.size w2 wx) => dright_any ra n rc D next wx hD.out hrc hmx (hD2.below hb)
  have qH := fun wx (hb : Below w2.heap.size w2 wx) => holds_any ra n rc D rb k rd (M'.map (·.1)) wx hD.out (by omega) (hD2.below hb) hL2 (by omega) (hJ2.below hb)
  have qN := fun wx (hb : Below w2.heap.size w2 wx) => never_any ra n rc D rb k rd (M'.map (·.1)) wx hD.out (by omega) (hD2.below hb) hL2 (by omega) (hJ2.below hb)
  rw [holds_re hre] at qH
  rw [never_re hre] at qN
  have qS := fun wx (hb : Below w2.heap.size w2 wx) => samedeps ra a n rc cn D wx hD.out (by omega) (hD2.below hb) (hatD.out.below (bnext B2 hb))
  have qT := fun wx (hb : Below w2.heap.size w2 wx) => sameJ rb c k rd ck M M' wx hM.out (by omega) hre (hJ2.below hb) (hatM.out.below (bnext B2 hb)) (fun p hp => ((hJ.dep p hp).dat).below hb) (hin.out.below (bnext B2 hb))
  replace qR := hid qR
  replace qH := hid qH
  replace qN := hid qN
  replace qS := hid qS
  replace qT := hid qT
  clear hre hJ hJ2 hD2 ho ho2 hL2 hmx hrc hrd kC
  generalize holdsP D (M.map (·.1)) = H at *
  generalize neverP D (M.map (·.1)) = N at *
  go_wp2_with fail
  refine (qR.out _ (Below.refl _ _)).mono ?_
  rintro e w3 ⟨⟨E, rfl, hE⟩, hb3⟩
  have B3 := bnext B2 hb3
  have C3 := hb3
  go_wp2_with fail
  refine (kR.out _ B3).mono ?_
  rintro e w4 ⟨⟨E', rfl, hE'⟩, hb4⟩
  obtain rfl := RT.uniq hE hE'
  have B4 := bnext B3 hb4
  have C4 := bnext C3 hb4
  have hneq : (H != H) = false := by cases H <;> rfl
  have hneq2 : (N != N) = false := by cases N <;> rfl
  have hneq3 : (E' != E') = false := by simp
  clear hE hE'
  go_wp2_with fail
  refine (qH.out _ C4).mono ?_
  rintro e w5 ⟨rfl, hb5⟩
  have B5 := bnext B4 hb5
  have C5 := bnext C4 hb5
  go_wp2_with fail
  refine (kH.out _ B5).mono ?_
  rintro e w6 ⟨rfl, hb6⟩
  have B6 := bnext B5 hb6
  have C6 := bnext C5 hb6
  go_wp2_with fail
  refine (qN.out _ C6).mono ?_
  rintro e w7 ⟨rfl, hb7⟩
  have B7 := bnext B6 hb7
  have C7 := bnext C6 hb7
  go_wp2_with fail
  refine (kN.out _ B7).mono ?_
  rintro e w8 ⟨rfl, hb8⟩
  have B8 := bnext B7 hb8
  have C8 := bnext C7 hb8
  go_wp2_with fail
  refine (qS.out _ C8).mono ?_
  rintro e w9 ⟨rfl, hb9⟩
  have B9 := bnext B8 hb9
  have C9 := bnext C8 hb9
  go_wp2_with fail
  refine (qT.out _ C9).mono ?_
  rintro e w10 ⟨rfl, hb10⟩
  have B10 := bnext B9 hb10
  go_wp2_with fail
  refine (kW _).mono ?_
  rintro e w11 ⟨rfl, hb11⟩
  go_wp2_with fail
  go_ret
  exact ⟨rfl, bnext B10 hb11⟩

end Go.Proofs.Ytphkdjacladcpaa
