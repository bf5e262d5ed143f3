/- The document's side: those that are up, the cores of each, those that have cores enough. -/
import Derived.Test.YtflapjehkgefdaaGreatNdNr
import Derived.Test.YtflapjehkgefdaaGreatNdGather
namespace Go.Proofs.YtflapjehkgefdaaGreat.Nd
open Go.RowKit

/-- The numbers below k of which b holds. -/
def pk (b : Nat → Bool) (k : Nat) : List Int := L2 ((List.range k).filter b)

theorem pk_yes {b : Nat → Bool} {k : Nat} (h : b k = true) : pk b (k + 1) = pk b k ++ [(k : Int)] := by
  unfold pk L2
  rw [List.range_succ, List.filter_append, List.filter_cons_of_pos h, List.filter_nil, List.map_append]
  rfl
theorem pk_no {b : Nat → Bool} {k : Nat} (h : b k = false) : pk b (k + 1) = pk b k := by
  unfold pk
  rw [List.range_succ, List.filter_append, List.filter_cons_of_neg (by rw [h]; simp), List.filter_nil, List.append_nil]
theorem pk_len (b : Nat → Bool) (k : Nat) : (pk b k).length ≤ k := by
  unfold pk L2
  rw [List.length_map]
  have := (List.filter_sublist (p := b) (l := List.range k)).length_le
  simpa using this

theorem of_pk {b : Nat → Bool} {k : Nat} (hk : k ≤ 32) : ofP (pk b k) = (gs b k, 0) := by
  have h1 : OkTo (pk b k) (pk b k).length := by
    intro n hn
    rw [List.take_length] at hn
    obtain ⟨x, hx, rfl⟩ := List.mem_map.1 hn
    have := (List.mem_filter.1 hx).1
    rw [List.mem_range] at this
    constructor
    · exact Int.natCast_nonneg x
    · show (x : Int) < 32; omega
  rw [ofP_ok h1]
  unfold gs pk L2
  rw [List.map_map]
  congr 2
  conv => rhs; rw [← List.map_id ((List.range k).filter b)]
  apply List.map_congr_left
  intro x _
  rfl

set_option maxRecDepth 100000 in
set_option maxHeartbeats 600000 in
theorem upr_any (a : Option Addr) (n c : Nat) (L : List Nod) (w : World) (hn : L.length = n) (hl : n ≤ 4611686018427387904) (hat : DAt w a L) :
    Calls Tryz.prog 43 #[.slice a n c] w fun e w' => e = .returned (.int .u32 (gs (upB L) (min L.length 32) : Int)) ∧ Below w.heap.size w w' := by
  obtain ⟨i0, hi0, hz0, hz1, hz2⟩ := info_parts info3
  obtain ⟨m, hm⟩ : ∃ m, m = min n 32 := ⟨_, rfl⟩
  rw [hn, ← hm]
  have hm32 : m ≤ 32 := by omega
  have hmn : m ≤ n := by omega
  have hmx : m < n → m = 32 := by omega
  replace hm := hid hm
  replace hmx := hid hmx
  replace hn := hid hn
  replace hat := hid hat
  go_enter Tryz.func43, Tryz.ntmps43
  go_wp2_with fail
  go_loopw [3, 4] (fun v i wr => ∃ j : Nat, j ≤ m ∧ i = .int .i64 (j : Int) ∧ NOwn wr w.heap.size v (pk (upB L) j) ∧ Below w.heap.size w wr) (fun _ i _ => m - (intOf i).toNat)
  case atStart => exact ⟨0, Nat.zero_le _, rfl, World.ownsRow_nil _ _ _ _, Below.refl _ _⟩
  case round =>
    obtain ⟨j, hj, rfl, hv, hb⟩ := hrel
    have hpl := pk_len (upB L) j
    by_cases hlt : j < m
    · have hjL : j < L.length := by rw [hn.out]; omega
      obtain ⟨b, o, e⟩ := hat.out.place (by omega)
      subst e
      obtain ⟨x0, x1, x2⟩ := (hat.out.below hb).one hjL
      have d01 : decide ((j : Int) < (n : Int)) = true := by simp; omega
      have d02 : decide ((j : Int) < 32) = true := by simp; omega
      cases hU : upB L j
      · have hse := hid (pk_no hU)
        rw [show (nodAt L j).2.1 = false from hU] at x1
        replace hU := hid hU
        replace hv := hid hv
        generalize pk (upB L) j = T at *
        go_wp2_with fail
        go_roundw
        case rel => exact ⟨j + 1, by omega, by go_num, by rw [hse.out]; exact hv.out, hb⟩
        case measure => simp [intOf]; omega
      · have hse := hid (pk_yes hU)
        rw [show (nodAt L j).2.1 = true from hU] at x1
        replace hU := hid hU
        replace hv := hid hv
        generalize pk (upB L) j = T at *
        go_wp2_with (at_builtin; refine Hid.out ?_)
        have bl := below_lit wr (.cells #[.int .i64 (j : Int)] 3)
        have hv2 := owns_below hv.out bl
        have B1 := bnext hb bl
        refine wpList_cat _ rfl (.tmp 22) (.tmp 24) 22 rfl w.heap.size 3 i0 _ 1 8 Tryz.underlying22 hi0 hz0 hz1 hz2 rfl (by omega) _ _ _ rfl hv2 (some ⟨wr.heap.size, 0, none⟩) 1 _ [.int .i64 (j : Int)] rfl rfl (cat_lit _ _ _ _ rfl) (int_one _) (by unfold maxLen; omega) (by omega) B1.size ?_
        intro v3 w3 hr3 hg3 hv3
        go_wp2_with fail
        go_roundw
        case rel =>
          refine ⟨j + 1, by omega, by go_num, ?_, ?_⟩
          · rw [hse.out]
            unfold NOwn
            simpa [I] using hr3
          · exact B1.grown hg3 B1.size (fun k hk => (hv2.lt k hk).1)
        case measure => simp [intOf]; omega
    · have hje : m = j := by omega
      subst hje
      obtain ⟨ad, q, rfl, hlk⟩ := owns_form hv
      have kO := ofr_any ad (pk (upB L) m).length q (pk (upB L) m) wr rfl (by omega) (owns_cat hv)
      rw [of_pk hm32] at kO
      replace hv := hid hv
      generalize (pk (upB L) m).length = M at *
      by_cases hmn2 : m < n
      · have d01 : decide ((m : Int) < (n : Int)) = true := by simp; omega
        have d02 : decide ((m : Int) < 32) = false := by have := hmx.out hmn2; simp; omega
        go_wp2_with fail
        refine kO.mono ?_
        rintro e w1 ⟨rfl, rfl⟩
        go_wp2
        go_ret
        exact ⟨rfl, hb⟩
      · have d01 : decide ((m : Int) < (n : Int)) = false := by simp; omega
        go_wp2_with fail
        refine kO.mono ?_
        rintro e w1 ⟨rfl, rfl⟩
        go_wp2
        go_ret
        exact ⟨rfl, hb⟩

/-- What the program and the document say of nodes that have cores enough is one. -/
theorem able_same (L : List Nod) (s : Nat) (c : Int) : gs (fun i => s.testBit i && coB L c i) (min L.length 32) = ableP L s c := by
  apply Nat.eq_of_testBit_eq
  intro i
  unfold ableP
  rw [Nat.testBit_and, gs_bit, gs_bit]
  cases s.testBit i <;> simp

end Go.Proofs.YtflapjehkgefdaaGreat.Nd
