/- The document's Free. -/
import Derived.Test.YticlpjpbjgfgmaaRp
namespace Go.Proofs.Yticlpjpbjgfgmaa
open Go.RowKit
open Nd (ofN L2 ofP)

theorem of_l2 {l : List Nat} (h : ∀ x ∈ l, x < 32) : ofP (L2 l) = (ofN l, 0) := by
  have h1 : Nd.OkTo (L2 l) (L2 l).length := by
    intro n hn
    rw [List.take_length] at hn
    obtain ⟨x, hx, rfl⟩ := List.mem_map.1 hn
    have := h x hx
    constructor
    · exact Int.natCast_nonneg x
    · show (x : Int) < 32; omega
  rw [Nd.ofP_ok h1]
  have h2 : (L2 l).map Int.toNat = l := by
    unfold L2
    rw [List.map_map]
    conv => rhs; rw [← List.map_id l]
    apply List.map_congr_left
    intro x _
    rfl
  rw [h2]

def fsel (s : Nat) (b : Nat → Bool) (j : Nat) : List Nat := (List.range j).filter fun i => s.testBit i && b i
theorem fsel_yes {s : Nat} {b : Nat → Bool} {j : Nat} (h1 : s.testBit j = true) (h2 : b j = true) : fsel s b (j + 1) = fsel s b j ++ [j] := by
  unfold fsel; rw [List.range_succ, List.filter_append, List.filter_cons_of_pos (p := fun i => s.testBit i && b i) (by rw [h1, h2]; rfl)]; rfl
theorem fsel_no {s : Nat} {b : Nat → Bool} {j : Nat} (h : (s.testBit j && b j) = false) : fsel s b (j + 1) = fsel s b j := by
  unfold fsel; rw [List.range_succ, List.filter_append, List.filter_cons_of_neg (p := fun i => s.testBit i && b i) (by rw [h]; simp), List.filter_nil, List.append_nil]
theorem fsel_len (s : Nat) (b : Nat → Bool) (j : Nat) : (fsel s b j).length ≤ j := by
  have := List.length_filter_le (fun i => s.testBit i && b i) (List.range j)
  rw [List.length_range] at this
  exact this
theorem fsel_of (s : Nat) (b : Nat → Bool) {j : Nat} (h : j ≤ 32) : ofP (L2 (fsel s b j)) = (gset s b j, 0) := by
  refine of_l2 fun x hx => ?_
  have := (List.mem_filter.1 hx).1
  rw [List.mem_range] at this
  omega
theorem l2_snoc (l : List Nat) (j : Nat) : L2 (l ++ [j]) = L2 l ++ [(j : Int)] := by simp [L2]

set_option maxRecDepth 100000 in
set_option maxHeartbeats 1000000 in
theorem rfree_any (a : Option Addr) (n c0 : Nat) (L : List Nd1) (s : Nat) (p q c : Int) (w : World) (hn : L.length = n) (hl : n ≤ 4611686018427387904) (hs : ∀ x ∈ L, x.C.length ≤ 4611686018427387904) (hss : s < 4294967296) (hat : PAt w a L) :
    Calls Try.prog 13 #[.slice a n c0, .int .u32 (s : Int), .int .i64 p, .int .i64 q, .int .i64 c] w fun e w' => e = .returned (.tuple #[.int .u32 ((freeA (cutsOf L) s p q c).1 : Int), .int .i64 (freeA (cutsOf L) s p q c).2]) ∧ Below w.heap.size w w' := by
  obtain ⟨i0, hi0, hz0, hz1, hz2⟩ := info_parts Nd.info3
  have kR := rright_any a n c0 L w hn hl hs hat
  have hcl := cutsOf_len L
  rw [hn] at hcl
  replace hn := hid hn
  replace hs := hid hs
  replace hat := hid hat
  by_cases h1 : RightPr (cutsOf L)
  · rw [rightPB_iff.2 h1] at kR
    have hn32 : n ≤ 32 := by have := h1.2.1; rw [hcl] at this; exact this
    by_cases k1 : p < 0
    · have d1 : decide (p < 0) = true := decide_eq_true k1
      have hf := hid (show freeA (cutsOf L) s p q c = (0, 2) from if_neg fun h => by have := h.2.1; omega)
      replace hcl := hid hcl
      replace h1 := hid h1
      go_enter Try.func13, Try.ntmps13
      go_wp2_with fail
      refine kR.mono ?_
      rintro e w1 ⟨rfl, hb1⟩
      go_wp2
      go_ret2
      rw [hf.out]; exact ⟨rfl, hb1⟩
    · have d1 : decide (p < 0) = false := decide_eq_false k1
      by_cases k2 : q ≤ p
      · have d2 : decide (q ≤ p) = true := decide_eq_true k2
        have hf := hid (show freeA (cutsOf L) s p q c = (0, 2) from if_neg fun h => by have := h.2.2.1; omega)
        replace hcl := hid hcl
        replace h1 := hid h1
        go_enter Try.func13, Try.ntmps13
        go_wp2_with fail
        refine kR.mono ?_
        rintro e w1 ⟨rfl, hb1⟩
        go_wp2
        go_ret2
        rw [hf.out]; exact ⟨rfl, hb1⟩
      · have d2 : decide (q ≤ p) = false := decide_eq_false k2
        by_cases k3 : 2199023255552 < q
        · have d3 : decide (2199023255552 < q) = true := decide_eq_true k3
          have hf := hid (show freeA (cutsOf L) s p q c = (0, 2) from if_neg fun h => by have := h.2.2.2; omega)
          replace hcl := hid hcl
          replace h1 := hid h1
          go_enter Try.func13, Try.ntmps13
          go_wp2_with fail
          refine kR.mono ?_
          rintro e w1 ⟨rfl, hb1⟩
          go_wp2
          go_ret2
          rw [hf.out]; exact ⟨rfl, hb1⟩
        · have d3 : decide (2199023255552 < q) = false := decide_eq_false k3
          have hw : winP p q := ⟨by omega, by omega, by omega⟩
          have hf := hid (show freeA (cutsOf L) s p q c = (gset s (fun k => decide (c ≤ lsT ((cutsOf L).getD k []) p q ((cutsOf L).getD k []).length)) n, 0) by unfold freeA freeS; rw [if_pos ⟨h1, hw⟩, hcl])
          obtain ⟨bf, hbfe⟩ : ∃ bf : Nat → Bool, bf = fun k => decide (c ≤ lsT ((cutsOf L).getD k []) p q ((cutsOf L).getD k []).length) := ⟨_, rfl⟩
          rw [← hbfe] at hf
          replace hbfe := hid hbfe
          replace hcl := hid hcl
          replace h1 := hid h1
          replace hw := hid hw
          go_enter Try.func13, Try.ntmps13
          go_wp2_with fail
          refine kR.mono ?_
          rintro e w1 ⟨rfl, hb1⟩
          go_wp2_with fail
          go_loopw [12, 13] (fun v i wr => ∃ j : Nat, j ≤ n ∧ i = .int .i64 (j : Int) ∧ Hid (Nd.NOwn wr w1.heap.size v (L2 (fsel s bf j))) ∧ Below w1.heap.size w1 wr) (fun _ i _ => n - (intOf i).toNat)
          case atStart => exact ⟨0, Nat.zero_le _, rfl, hid (by unfold Nd.NOwn; exact World.ownsRow_nil _ _ _ _), Below.refl _ _⟩
          case round =>
            obtain ⟨j, hj, rfl, hv, hb⟩ := hrel
            by_cases hlt : j < n
            · have hjL : j < L.length := by rw [hn.out]; exact hlt
              have hj32 : j < 32 := by omega
              obtain ⟨b, o, e⟩ := hat.out.place (by omega)
              subst e
              have Bw := bnext hb1 hb
              have y0 := (hat.out.below Bw).one hjL
              have hrC := h1.out.2.2 L[j].C (List.mem_map.2 ⟨_, List.getElem_mem hjL, rfl⟩)
              have kL := Leastr_any L[j].a L[j].C.length L[j].c L[j].C p q wr rfl (hs.out _ (List.getElem_mem hjL)) ((hat.out.below Bw).each _ (List.getElem_mem hjL))
              rw [show lsA L[j].C p q = (lsT L[j].C p q L[j].C.length, 0) from if_pos ⟨hrC, hw.out⟩] at kL
              have hbj : bf j = decide (c ≤ lsT L[j].C p q L[j].C.length) := by rw [hbfe.out]; simp only [cutsOf_get hjL]
              have kH := fun w => Nd.hasr_any s (j : Int) hss (by omega) (by omega) w
              rw [Nd.hasR_nat s j hj32] at kH
              have hll := fsel_len s bf j
              have hl2 : (L2 (fsel s bf j)).length ≤ 32 := by simp [L2]; omega
              have hy := hid (fun (a : s.testBit j = true) (b : bf j = true) => fsel_yes a b)
              have hno := hid (fun (a : (s.testBit j && bf j) = false) => fsel_no a)
              clear hrC
              generalize lsT L[j].C p q L[j].C.length = V at *
              generalize L[j].a = la at *
              generalize L[j].c = lc at *
              generalize L[j].C.length = ll at *
              cases hbit : s.testBit j
              · have hse := hid (hno.out (by rw [hbit]; rfl))
                rw [hbit] at kH
                go_wp2_with fail
                refine kL.mono ?_
                rintro e w2 ⟨rfl, hb2⟩
                go_wp2_with fail
                refine (kH _).mono ?_
                rintro e w3 ⟨rfl, rfl⟩
                have hv2 := hid (show Nd.NOwn w3 w1.heap.size u12 (L2 (fsel s bf (j + 1))) by rw [hse.out]; exact owns_below hv.out hb2)
                have hb3 := bnext hb hb2
                go_wp2_with fail
                go_roundw
                case rel => exact ⟨j + 1, by omega, by go_num, hv2, hb3⟩
                case measure => simp [intOf]; omega
              · rw [hbit] at kH
                by_cases hV : c ≤ V
                · have dV : decide (c ≤ V) = true := decide_eq_true hV
                  rw [dV] at hbj
                  have hse := hid (hy.out hbit hbj)
                  replace hbj := hid hbj
                  go_wp2_with fail
                  refine kL.mono ?_
                  rintro e w2 ⟨rfl, hb2⟩
                  go_wp2_with fail
                  refine (kH _).mono ?_
                  rintro e w3 ⟨rfl, rfl⟩
                  have hb3 := bnext hb hb2
                  have hv3 := hid (owns_below hv.out hb2)
                  go_wp2_with (at_builtin; refine Hid.out ?_)
                  refine hid ?_
                  have bl := below_lit w3 (.cells #[.int .i64 (j : Int)] 3)
                  have hv4 := owns_below hv3.out bl
                  have B4 := bnext hb3 bl
                  refine wpList_cat _ rfl (.tmp 58) (.tmp 60) 22 rfl w1.heap.size 3 i0 _ 1 8 Try.underlying22 hi0 hz0 hz1 hz2 rfl (by omega) _ _ _ rfl hv4 (some ⟨w3.heap.size, 0, none⟩) 1 1 [.int .i64 (j : Int)] rfl rfl (cat_lit _ _ _ _ rfl) (Nd.int_one _) (by unfold maxLen; omega) (by omega) B4.size ?_
                  intro v5 w5 hr5 hg5 hv5
                  have B5 := B4.grown hg5 B4.size (fun k hk => (hv4.lt k hk).1)
                  have hv6 := hid (show Nd.NOwn w5 w1.heap.size v5 (L2 (fsel s bf (j + 1))) by
                    rw [hse.out, l2_snoc]
                    unfold Nd.NOwn
                    simpa [Nd.I] using hr5)
                  go_wp2_with fail
                  go_roundw
                  case rel => exact ⟨j + 1, by omega, by go_num, hv6, B5⟩
                  case measure => simp [intOf]; omega
                · have dV : decide (c ≤ V) = false := decide_eq_false hV
                  rw [dV] at hbj
                  have hse := hid (hno.out (by rw [hbj]; simp))
                  replace hbj := hid hbj
                  go_wp2_with fail
                  refine kL.mono ?_
                  rintro e w2 ⟨rfl, hb2⟩
                  go_wp2_with fail
                  refine (kH _).mono ?_
                  rintro e w3 ⟨rfl, rfl⟩
                  have hv2 := hid (show Nd.NOwn w3 w1.heap.size u12 (L2 (fsel s bf (j + 1))) by rw [hse.out]; exact owns_below hv.out hb2)
                  have hb3 := bnext hb hb2
                  go_wp2_with fail
                  go_roundw
                  case rel => exact ⟨j + 1, by omega, by go_num, hv2, hb3⟩
                  case measure => simp [intOf]; omega
            · have hje : j = n := by omega
              subst hje
              have hll := fsel_len s bf j
              obtain ⟨ad, k, e, _⟩ := owns_form hv.out
              have hcat := hv.out
              subst e
              have kO := Nd.ofr_any ad (L2 (fsel s bf j)).length k (L2 (fsel s bf j)) wr rfl (by simp [L2]; omega) (owns_cat hcat)
              rw [fsel_of s bf hn32] at kO
              clear hcat
              have B2 := bnext hb1 hb
              generalize (L2 (fsel s bf j)).length = fl at *
              generalize gset s bf j = S at *
              go_wp2_with fail
              refine kO.mono ?_
              rintro e w5 ⟨rfl, rfl⟩
              go_wp2
              go_ret2
              rw [hf.out]; exact ⟨rfl, B2⟩
  · have hf := hid (show freeA (cutsOf L) s p q c = (0, 2) from if_neg fun h => h1 h.1)
    rw [rightPB_no h1] at kR
    replace hcl := hid hcl
    replace h1 := hid h1
    go_enter Try.func13, Try.ntmps13
    go_wp2_with fail
    refine kR.mono ?_
    rintro e w1 ⟨rfl, hb1⟩
    go_wp2
    go_ret2
    rw [hf.out]; exact ⟨rfl, hb1⟩

end Go.Proofs.Yticlpjpbjgfgmaa
