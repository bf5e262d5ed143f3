/- New nodes; a node that fails; one that rises. -/
import Derived.Test.YtflapjehkgefdaaGreatNdRight
namespace Go.Proofs.YtflapjehkgefdaaGreat.Nd
open Go.RowKit

def mkN (Z : List Int) : List Nod := Z.map fun c => (c, true, 1)
def newP (Z : List Int) : List Nod × Int := if rightB (mkN Z) then (mkN Z, 0) else ([], 2)
def failN (L : List Nod) (k : Nat) : List Nod := L.set k ((nodAt L k).1, false, (nodAt L k).2.2)
def riseN (L : List Nod) (k : Nat) : List Nod := L.set k ((nodAt L k).1, true, (nodAt L k).2.2 + 1)
def failP (L : List Nod) (i : Int) : List Nod × Int :=
  if rightB L && placeB L.length i then if (nodAt L i.toNat).2.1 then (failN L i.toNat, 0) else ([], 180) else ([], 2)
def riseP (L : List Nod) (i : Int) : List Nod × Int :=
  if rightB L && placeB L.length i then if (nodAt L i.toNat).2.1 then ([], 180) else if (nodAt L i.toNat).2.2 = 1073741824 then ([], 120) else (riseN L i.toNat, 0) else ([], 2)

/-- A list of nodes of the call's own, and an error, are told. -/
def NTold (D : List Nod × Int) (w : World) (e : Ending) (w' : World) : Prop :=
  ∃ a c, e = .returned (.tuple #[.slice a D.1.length c, .int .i64 D.2]) ∧ D.1.length ≤ c ∧ DOwn w' w.heap.size (.slice a D.1.length c) D.1 ∧ Below w.heap.size w w'

theorem NTold.none {E : Int} {w w' : World} (h : Below w.heap.size w w') : NTold ([], E) w (.returned (.tuple #[.slice Option.none 0 0, .int .i64 E])) w' := ⟨Option.none, 0, rfl, Nat.le_refl _, DOwn.nil _ _, h⟩

theorem NTold.of {D : List Nod} {E : Int} {w w' : World} {a : Option Addr} {n c : Nat} (hD : D.length = n) (hnc : n ≤ c) (ho : DOwn w' w.heap.size (.slice a n c) D) (hb : Below w.heap.size w w') : NTold (D, E) w (.returned (.tuple #[.slice a n c, .int .i64 E])) w' := by
  subst hD
  exact ⟨a, c, rfl, hnc, ho, hb⟩

theorem mkN_len (Z : List Int) : (mkN Z).length = Z.length := by simp [mkN]
theorem mkN_take {Z : List Int} {j : Nat} (h : j < Z.length) : mkN (Z.take (j + 1)) = mkN (Z.take j) ++ [(Z[j], true, 1)] := by
  rw [take_more h]; unfold mkN; rw [List.map_append]; rfl

set_option maxRecDepth 100000 in
set_option maxHeartbeats 600000 in
theorem new_any (a : Option Addr) (n c : Nat) (Z : List Int) (w : World) (hn : Z.length = n) (hl : n ≤ 4611686018427387904) (hat : CAt w a (Z.map I)) :
    Calls Tryz.prog 74 #[.slice a n c] w fun e w' => NTold (newP Z) w e w' := by
  obtain ⟨i0, hi0, hz0, hz1, hz2⟩ := info_parts info38
  by_cases h32 : 32 < n
  · have hf := hid (show newP Z = ([], 2) by unfold newP; rw [right_no (by rw [mkN_len]; omega)]; rfl)
    have d1 : decide ((32 : Int) < (n : Int)) = true := by simp; omega
    replace hn := hid hn
    replace hat := hid hat
    go_enter Tryz.func74, Tryz.ntmps74
    go_wp2
    go_ret2
    rw [hf.out]
    exact NTold.none (Below.refl _ _)
  have d1 : decide ((32 : Int) < (n : Int)) = false := by simp; omega
  replace hn := hid hn
  replace hat := hid hat
  go_enter Tryz.func74, Tryz.ntmps74
  go_wp2_with fail
  go_loopw [4, 12] (fun v i wr => ∃ j : Nat, j ≤ n ∧ i = .int .i64 (j : Int) ∧ DOwn wr w.heap.size v (mkN (Z.take j)) ∧ Below w.heap.size w wr) (fun _ i _ => n - (intOf i).toNat)
  case atStart => exact ⟨0, Nat.zero_le _, rfl, DOwn.nil _ _, Below.refl _ _⟩
  case round =>
    obtain ⟨j, hj, rfl, hv, hb⟩ := hrel
    by_cases hlt : j < n
    · have hjL : j < Z.length := by rw [hn.out]; exact hlt
      obtain ⟨b, o, e⟩ := iat_place hat.out (by intro e; rw [e] at hjL; simp at hjL)
      subst e
      have x0 := iat_cell (CAt.below hat.out hb) j hjL
      have hts := hid (mkN_take hjL)
      have htl : (mkN (Z.take j)).length = j := by rw [mkN_len, List.length_take]; omega
      generalize Z[j] = X at *
      generalize mkN (Z.take j) = T at *
      replace hv := hid hv
      replace htl := hid htl
      go_wp2_with (at_builtin; refine Hid.out ?_)
      have bl := below_lit wr (.cells #[.int .i64 X, .bool true, .int .i64 1] 104)
      have hv2 := hv.out.below bl
      unfold DOwn at hv2
      rw [htl.out] at hv2
      have B1 := bnext hb bl
      refine wpList_cat _ rfl (.tmp 16) (.tmp 19) 85 rfl w.heap.size 104 i0 _ 3 24 Tryz.underlying85 hi0 hz0 hz1 hz2 rfl (by omega) _ _ _ rfl hv2 (some ⟨wr.heap.size, 0, none⟩) 1 _ [.int .i64 X, .bool true, .int .i64 1] rfl rfl (cat_lit _ _ _ _ rfl) (three_one (X, true, 1)) (by unfold maxLen; omega) (by omega) B1.size ?_
      intro v3 w3 hr3 hg3 hv3
      go_wp2_with fail
      go_roundw
      case rel =>
        refine ⟨j + 1, by omega, by go_num, ?_, ?_⟩
        · rw [hts.out]
          unfold DOwn
          rw [List.length_append, htl.out, nc_snoc]
          exact hr3
        · exact B1.grown hg3 B1.size (fun k hk => (hv2.lt k hk).1)
      case measure => simp [intOf]; omega
    · have hje : j = n := by omega
      subst hje
      have ht : Z.take j = Z := by rw [← hn.out, List.take_length]
      rw [ht] at hv
      obtain ⟨ad, k, rfl, hlk⟩ := owns_form hv
      have hlen : (mkN Z).length = j := by rw [mkN_len]; exact hn.out
      have kR := right_any ad (mkN Z).length k (mkN Z) wr rfl (by omega) hv.dat
      cases hB : rightB (mkN Z)
      · have hf := hid (show newP Z = ([], 2) by unfold newP; rw [hB]; rfl)
        rw [hB] at kR
        replace hB := hid hB
        replace hv := hid hv
        generalize (mkN Z).length = M at *
        replace hlen := hid hlen
        go_wp2_with fail
        refine kR.mono ?_
        rintro e w1 ⟨rfl, hb1⟩
        have B1 := bnext hb hb1
        go_wp2
        go_ret2
        rw [hf.out]
        exact NTold.none B1
      · have hf := hid (show newP Z = (mkN Z, 0) by unfold newP; rw [hB]; rfl)
        rw [hB] at kR
        replace hB := hid hB
        replace hv := hid hv
        obtain ⟨M, hM⟩ : ∃ M, M = (mkN Z).length := ⟨_, rfl⟩
        rw [← hM] at kR hlk ⊢
        replace hM := hid hM
        replace hlen := hid hlen
        go_wp2_with fail
        refine kR.mono ?_
        rintro e w1 ⟨rfl, hb1⟩
        have B1 := bnext hb hb1
        go_wp2
        go_ret2
        rw [hf.out]
        have hv1 := hv.out.below hb1
        rw [← hM.out] at hv1
        exact NTold.of hM.out.symm hlk hv1 B1

theorem copied_of {w w' : World} {L : List Nod} {g n : Nat} (h : DOwn w' w.heap.size (.slice (some ⟨g, 0, none⟩) n n) L) (hn : L.length = n) {k : Nat} (hk : k < n) :
    g < w'.heap.size ∧ w.heap.size ≤ g ∧ (∀ i, w'.frozen? ⟨g, i, none⟩ = false) ∧ w'.cell? ⟨g, k * 3, none⟩ = some (.int .i64 (nodAt L k).1) ∧ w'.cell? ⟨g, k * 3 + 1, none⟩ = some (.bool (nodAt L k).2.1) ∧ w'.cell? ⟨g, k * 3 + 2, none⟩ = some (.int .i64 (nodAt L k).2.2) := by
  subst hn
  obtain ⟨g', c', e, hb, hgl, _, hfz⟩ := owns_spot h (by omega)
  simp only [Value.slice.injEq, Option.some.injEq, Addr.mk.injEq] at e
  obtain ⟨⟨e, _, _⟩, _, _⟩ := e
  subst e
  have h1 := h.dat.one hk
  simp only [Nat.zero_add] at h1
  exact ⟨hgl, hb, hfz, h1⟩

theorem nodAt_set {L : List Nod} {k : Nat} (h : k < L.length) (x : Nod) : nodAt (L.set k x) k = x := by
  rw [← nodAt_eq (by simpa using h)]; simp

end Go.Proofs.YtflapjehkgefdaaGreat.Nd
