/- The document's Fit. -/
import Derived.Test.YticlpjpbjgfgmaaOpen
import Derived.Test.YticlpjpbjgfgmaaCand
import Derived.Test.YticlpjpbjgfgmaaFit
import Derived.Test.YticlpjpbjgfgmaaSort
import Derived.Deep.DeepCutAuto
namespace Go.Proofs.Yticlpjpbjgfgmaa
open Go.RowKit
open Nd (cnt lst lowk firstP L2)

/-- A row of times of the call's own. -/
def ZOwn (w : World) (base : Nat) (v : Value) (Z : List Int) : Prop := w.ownsRow base 2 1 v Z.length (Z.map Nd.I)
theorem ZOwn.below {w w' : World} {base : Nat} {v : Value} {Z : List Int} (h : ZOwn w base v Z) (hb : Below w.heap.size w w') : ZOwn w' base v Z := owns_below h hb
theorem ZOwn.lit (w : World) (x : Int) : ZOwn (w.alloc (.cells #[.int .i64 x] 2)) w.heap.size (.slice (some ⟨w.heap.size, 0, none⟩) 1 1) [x] := by
  refine ⟨rfl, .inr ⟨w.heap.size, 1, #[.int .i64 x], rfl, Nat.le_refl _, heap_alloc_new w _, Nat.le_refl _, ?_, rfl, rfl⟩⟩
  unfold maxLen; omega

def CovC (P : List (List Cut)) (A : AskP) (Z : List Int) (j : Nat) : Prop := A.fr ∈ Z ∧ ∀ i, i < j → ∀ k, k < (P.getD i []).length → tm (P.getD i []) k ∈ Z
def CovY (C : List Cut) (Z : List Int) (y : Nat) : Prop := ∀ k, k < y → tm C k ∈ Z
def CovB (A : AskP) (Z : List Int) (j : Nat) : Prop := ∀ b ∈ A.bs.take j, b.t ∈ Z
theorem CovC.more {P : List (List Cut)} {A : AskP} {Z : List Int} {j : Nat} (h : CovC P A Z j) (x : Int) : CovC P A (Z ++ [x]) j := ⟨List.mem_append_left _ h.1, fun i hi k hk => List.mem_append_left _ (h.2 i hi k hk)⟩
theorem CovC.next {P : List (List Cut)} {A : AskP} {Z : List Int} {j : Nat} (h : CovC P A Z j) (hy : CovY (P.getD j []) Z (P.getD j []).length) : CovC P A Z (j + 1) := ⟨h.1, fun i hi k hk => by
  by_cases e : i = j
  · subst e; exact hy k hk
  · exact h.2 i (by omega) k hk⟩
theorem CovY.more {C : List Cut} {Z : List Int} {y : Nat} (h : CovY C Z y) : CovY C (Z ++ [tm C y]) (y + 1) := fun k hk => by
  by_cases e : k = y
  · subst e; simp
  · exact List.mem_append_left _ (h k (by omega))
theorem CovB.more {A : AskP} {Z : List Int} {j : Nat} (h : CovB A Z j) (hj : j < A.bs.length) : CovB A (Z ++ [A.bs[j].t]) (j + 1) := fun b hb => by
  rw [List.take_add_one, List.getElem?_eq_getElem hj] at hb
  rcases List.mem_append.1 hb with h1 | h1
  · exact List.mem_append_left _ (h b h1)
  · simp at h1; rw [h1]; simp
theorem covZ_of {P : List (List Cut)} {A : AskP} {Z : List Int} (h : CovC P A Z P.length) (k : CovB A Z A.bs.length) : CovZ P A Z := by
  rintro t (h1 | ⟨i, hi, y, hy, h1⟩ | ⟨b, hb, h1⟩)
  · rw [h1]; exact h.1
  · rw [h1]; exact h.2 i hi y hy
  · rw [h1]; exact k b (by rw [List.take_length]; exact hb)

theorem listr_len (s : Nat) (hs : s < 4294967296) (w : World) : Calls Try.prog 51 #[.int .u32 (s : Int)] w fun e w' => ∃ ad k, e = .returned (.slice ad (cnt s) k) ∧ Below w.heap.size w w' := by
  refine (Nd.listr_any s hs w).mono ?_
  rintro e w' ⟨v, rfl, hv, hb⟩
  obtain ⟨ad, k, e, _⟩ := owns_form hv
  refine ⟨ad, k, ?_, hb⟩
  rw [e, show (L2 (lst s)).length = cnt s by simp [L2, cnt]]

set_option maxRecDepth 100000 in
set_option maxHeartbeats 8000000 in
theorem rfit_any (a : Option Addr) (n c0 : Nat) (L : List Nd1) (A : AskP) (ba : Option Addr) (bn bc0 : Nat) (w : World) (hn : L.length = n) (hl : n ≤ 4611686018427387904) (hs : ∀ x ∈ L, x.C.length ≤ 4611686018427387904) (hat : PAt w a L) (hbn : A.bs.length = bn) (hbl : bn ≤ 4611686018427387904) (hbs : ∀ b ∈ A.bs, b.nodes < 4294967296) (hnd : A.nodes < 4294967296) (hba : BAt w ba A.bs) :
    Calls Try.prog 23 #[.slice a n c0, A.val ba bn bc0] w fun e w' => FTold (cutsOf L) A w e w' := by
  have hask := ABlk.new w A ba bn bc0
  have b0 := below_lit w (.cells (A.cells ba bn bc0) 44)
  have kR := rright_any a n c0 L _ hn hl hs (hat.below b0)
  have kK := fun w' (h : Below w.heap.size w w') => rightask_any A ba bn bc0 w' hbn hbl (hba.below h)
  rw [show A.val ba bn bc0 = .agg (A.cells ba bn bc0) from rfl]
  unfold AskP.val AskP.cells at kK
  by_cases h1 : RightPr (cutsOf L)
  · rw [rightPB_iff.2 h1] at kR
    by_cases h2 : RightAsk A
    · rw [askB_iff.2 h2] at kK
      obtain ⟨i0, hi0, hz0, hz1, hz2⟩ := info_parts info2
      have hn32 : n ≤ 32 := by have := h1.2.1; rw [cutsOf_len, hn] at this; exact this
      have hbn2 : bn ≤ 4096 := by rw [← hbn]; exact h2.2.2.2.2.1
      have hfr0 : 0 ≤ A.fr := h2.2.2.2.1.1
      have kO := fun (t : Int) (k0 : 0 ≤ t) (k1 : t ≤ 1099511627776) w' (h : Below w.heap.size w w') => open_any a n c0 L A ba bn bc0 t w' hn hs (hat.below h) hbn hbs hnd (hba.below h) h1 h2 k0 k1
      have hSlt := hid (fun t => show opn (cutsOf L) A t < 4294967296 from gset_lt _ _ h1.2.1)
      unfold AskP.val AskP.cells at kO
      replace kO := hid kO
      replace hask := hid hask
      replace hn := hid hn
      replace hs := hid hs
      have hat0 := hid (hat.below b0)
      have hba0 := hid (hba.below b0)
      clear hat hba
      replace hbn := hid hbn
      replace hbs := hid hbs
      replace h1 := hid h1
      replace h2 := hid h2
      go_enter Try.func23, Try.ntmps23
      go_wp2_with fail
      generalize w.alloc (.cells (A.cells ba bn bc0) 44) = wa at *
      refine kR.mono ?_
      rintro e w1 ⟨rfl, hb1⟩
      have hB1 := bnext b0 hb1
      have hask1 := hask.out.below hb1
      have e0 := hask1.c0
      have e1 := hask1.c1
      have e2 := hask1.c2
      have e3 := hask1.c3
      have e4 := hask1.c4
      have e5 := hask1.c5
      clear hask1
      go_wp2_with fail
      refine (kK _ hB1).mono ?_
      rintro e w2 ⟨rfl, hb2⟩
      have hb12 := hid (bnext hb1 hb2)
      clear e0 e1 e2 e3 e4 e5 hB1 kR kK
      have e3 := (hask.out.below hb12.out).c3
      have hT0 := hid (ZOwn.lit w2 A.fr)
      have hcov0 := hid (show CovC (cutsOf L) A [A.fr] 0 from ⟨by simp, fun i hi => absurd hi (by omega)⟩)
      have bl2 := below_lit w2 (.cells #[.int .i64 A.fr] 2)
      go_wp2_with fail
      go_loopw [7, 8] (fun v i wr => ∃ j : Nat, j ≤ n ∧ i = .int .i64 (j : Int) ∧ (∃ Z : List Int, Hid (ZOwn wr w2.heap.size v Z) ∧ Hid (CovC (cutsOf L) A Z j) ∧ Z.length ≤ 1 + j * 4096) ∧ Below w2.heap.size w2 wr) (fun _ i _ => n - (intOf i).toNat)
      case atStart => exact ⟨0, Nat.zero_le _, rfl, ⟨_, hT0, hcov0, by simp⟩, bl2⟩
      case round =>
        obtain ⟨j, hj, rfl, ⟨Z, hT, hcov, hZl⟩, hb⟩ := hrel
        clear hT0 hcov0 bl2 e3
        by_cases hlt : j < n
        · have hjL : j < L.length := by rw [hn.out]; exact hlt
          obtain ⟨b, o, e⟩ := hat0.out.place (by omega)
          subst e
          have hrow := hid (fun wr (h : Below w2.heap.size w2 wr) => (hat0.out.below (bnext hb12.out h)).one hjL)
          have hsat := hid (fun wr (h : Below w2.heap.size w2 wr) => (hat0.out.below (bnext hb12.out h)).each _ (List.getElem_mem hjL))
          have hget := hid (cutsOf_get hjL)
          have hlen : L[j].C.length ≤ 4096 := short_of h1.out _ (List.getElem_mem hjL)
          generalize L[j].a = la at *
          generalize L[j].c = lk at *
          generalize L[j].C = lC at *
          generalize hlc : lC.length = lc at *
          replace hlc := hid hlc
          have y0 := hrow.out _ hb
          go_wp2_with fail
          go_loopw [7, 9] (fun v i wr => ∃ y : Nat, y ≤ lc ∧ i = .int .i64 (y : Int) ∧ (∃ Z : List Int, Hid (ZOwn wr w2.heap.size v Z) ∧ Hid (CovC (cutsOf L) A Z j) ∧ Hid (CovY lC Z y) ∧ Z.length ≤ 1 + j * 4096 + y) ∧ Below w2.heap.size w2 wr) (fun _ i _ => lc - (intOf i).toNat)
          case atStart => exact ⟨0, Nat.zero_le _, rfl, ⟨Z, hT, hcov, hid (fun k hk => absurd hk (by omega)), by omega⟩, hb⟩
          case round =>
            obtain ⟨y, hy, rfl, ⟨Z2, hT2, hcov2, hcy, hZ2⟩, hb2⟩ := hrel
            clear hT hcov hZl hb y0
            have y0 := hrow.out _ hb2
            by_cases hly : y < lc
            · have hs2 := hsat.out _ hb2
              obtain ⟨g2, o2, e⟩ := hs2.place (by rw [hlc.out]; omega)
              subst e
              have y1 := (hs2.one (show y < lC.length by rw [hlc.out]; exact hly)).1
              have hcy2 := hid (hcy.out.more)
              have hcov3 := hid (hcov2.out.more (tm lC y))
              clear hs2
              generalize tm lC y = X at *
              go_wp2_with (at_builtin; refine Hid.out ?_)
              refine hid ?_
              have bl := below_lit wr (.cells #[.int .i64 X] 2)
              have hv4 := hT2.out.below bl
              have B4 := bnext hb2 bl
              refine wpList_cat _ rfl (.tmp 42) (.tmp 51) 78 rfl w2.heap.size 2 i0 _ 1 8 Try.underlying78 hi0 hz0 hz1 hz2 rfl (by omega) _ _ _ rfl hv4 (some ⟨wr.heap.size, 0, none⟩) 1 1 [.int .i64 X] rfl rfl (cat_lit _ _ _ _ rfl) (Nd.int_one _) (by unfold maxLen; omega) (by omega) B4.size ?_
              intro v5 w5 hr5 hg5 hv5
              have B5 := B4.grown hg5 B4.size (fun k hk => (hv4.lt k hk).1)
              have hv6 := hid (show ZOwn w5 w2.heap.size v5 (Z2 ++ [X]) by
                unfold ZOwn
                simpa [Nd.I] using hr5)
              go_wp2_with fail
              go_roundw
              case rel => exact ⟨y + 1, by omega, by go_num, ⟨_, hv6, hcov3, hcy2, by rw [List.length_append]; simp; omega⟩, B5⟩
              case measure => simp [intOf]; omega
            · have hye : y = lc := by omega
              subst hye
              have hcov3 := hid (hcov2.out.next (by rw [hget.out, hlc.out]; exact hcy.out))
              go_wp2_with fail
              go_roundw
              case rel => exact ⟨j + 1, by omega, by go_num, ⟨Z2, hT2, hcov3, by omega⟩, hb2⟩
              case measure => simp [intOf]; omega
        · have hje : n = j := by omega
          subst hje
          have hcb0 := hid (show CovB A Z 0 from fun b hb => by simp at hb)
          go_wp2_with fail
          go_loopw [7, 10] (fun v i wr => ∃ j : Nat, j ≤ bn ∧ i = .int .i64 (j : Int) ∧ (∃ Z : List Int, Hid (ZOwn wr w2.heap.size v Z) ∧ Hid (CovC (cutsOf L) A Z n) ∧ Hid (CovB A Z j) ∧ Z.length ≤ 200000 + j) ∧ Below w2.heap.size w2 wr) (fun _ i _ => bn - (intOf i).toNat)
          case atStart => exact ⟨0, Nat.zero_le _, rfl, ⟨Z, hT, hcov, hcb0, by omega⟩, hb⟩
          case round =>
            obtain ⟨j, hj2, rfl, ⟨Z2, hT2, hcov2, hcb, hZ2⟩, hb2⟩ := hrel
            clear hT hcov hZl hb hcb0
            have Bw := bnext hb12.out hb2
            have e5 := (hask.out.below Bw).c5
            by_cases hlt2 : j < bn
            · have hjB : j < A.bs.length := by rw [hbn.out]; exact hlt2
              obtain ⟨g2, o2, e⟩ := hba0.out.place (by omega)
              subst e
              obtain ⟨_, _, x2⟩ := (hba0.out.below Bw).one hjB
              have hcb2 := hid (hcb.out.more hjB)
              have hcov3 := hid (hcov2.out.more A.bs[j].t)
              generalize A.bs[j].t = X at *
              go_wp2_with (at_builtin; refine Hid.out ?_)
              refine hid ?_
              have bl := below_lit wr (.cells #[.int .i64 X] 2)
              have hv4 := hT2.out.below bl
              have B4 := bnext hb2 bl
              refine wpList_cat _ rfl (.tmp 60) (.tmp 67) 78 rfl w2.heap.size 2 i0 _ 1 8 Try.underlying78 hi0 hz0 hz1 hz2 rfl (by omega) _ _ _ rfl hv4 (some ⟨wr.heap.size, 0, none⟩) 1 1 [.int .i64 X] rfl rfl (cat_lit _ _ _ _ rfl) (Nd.int_one _) (by unfold maxLen; omega) (by omega) B4.size ?_
              intro v5 w5 hr5 hg5 hv5
              have B5 := B4.grown hg5 B4.size (fun k hk => (hv4.lt k hk).1)
              have hv6 := hid (show ZOwn w5 w2.heap.size v5 (Z2 ++ [X]) by
                unfold ZOwn
                simpa [Nd.I] using hr5)
              go_wp2_with fail
              go_roundw
              case rel => exact ⟨j + 1, by omega, by go_num, ⟨_, hv6, hcov3, hcb2, by rw [List.length_append]; simp; omega⟩, B5⟩
              case measure => simp [intOf]; omega
            · have hje2 : bn = j := by omega
              subst hje2
              have hcz := hid (covZ_of (by rw [cutsOf_len, hn.out]; exact hcov2.out) (by rw [hbn.out]; exact hcb.out))
              obtain ⟨za, zk, e, _⟩ := owns_form hT2.out
              subst e
              generalize hzl : Z2.length = zl at *
              replace hzl := hid hzl
              have hbest0 := hid (BestIs.zero (cutsOf L) A Z2)
              go_wp2_with fail
              clear e5 Bw
              go_loopw [11, 12] (fun v i wr => ∃ j : Nat, j ≤ zl ∧ i = .int .i64 (j : Int) ∧ (∃ best : Int, v = .int .i64 best ∧ Hid (BestIs (cutsOf L) A Z2 j best)) ∧ Hid (ZOwn wr w2.heap.size (.slice za zl zk) Z2) ∧ Below w2.heap.size w2 wr) (fun _ i _ => zl - (intOf i).toNat)
              case atStart => exact ⟨0, Nat.zero_le _, rfl, ⟨_, rfl, hbest0⟩, hT2, hb2⟩
              case round =>
                obtain ⟨j, hj3, rfl, ⟨best, rfl, hbest⟩, hT3, hb3⟩ := hrel
                clear hbest0 hT2 hb2
                have Bw := bnext hb12.out hb3
                have Bw0 := bnext b0 Bw
                have haskw := hask.out.below Bw
                have e0 := haskw.c0
                have e1 := haskw.c1
                have e2 := haskw.c2
                have e3 := haskw.c3
                have e4 := haskw.c4
                have e5 := haskw.c5
                have hS := hid (fun w' (h : Below wr.heap.size wr w') => show w'.cell? ⟨w.heap.size, 0, none⟩ = some (.int .i64 A.count) ∧ w'.cell? ⟨w.heap.size, 1, none⟩ = some (.int .i64 A.cores) ∧ w'.cell? ⟨w.heap.size, 2, none⟩ = some (.int .i64 A.limit) ∧ w'.cell? ⟨w.heap.size, 3, none⟩ = some (.int .i64 A.fr) ∧ w'.cell? ⟨w.heap.size, 4, none⟩ = some (.int .u32 (A.nodes : Int)) ∧ w'.cell? ⟨w.heap.size, 5, none⟩ = some (.slice ba bn bc0) from ⟨stay h e0, stay h e1, stay h e2, stay h e3, stay h e4, stay h e5⟩)
                clear haskw
                by_cases hlt3 : j < zl
                · have hjZ : j < Z2.length := by rw [hzl.out]; exact hlt3
                  obtain ⟨zb, zo, e⟩ := Nd.iat_place (owns_cat hT3.out) (by intro e; rw [e] at hjZ; simp at hjZ)
                  subst e
                  have x0 := Nd.iat_cell (owns_cat hT3.out) j hjZ
                  have hkeep := hid (fun k => hbest.out.keep hjZ k)
                  have hput := hid (fun hg k => hbest.out.put hjZ hg k hfr0)
                  have hgd := hid (show goodT (cutsOf L) A Z2[j] ↔ A.fr ≤ Z2[j] ∧ Z2[j] ≤ maxT ∧ A.count ≤ (cnt (opn (cutsOf L) A Z2[j]) : Int) from Iff.rfl)
                  generalize hX : Z2[j] = X at *
                  replace hX := hid hX
                  by_cases k1 : X < A.fr
                  · have d1 : decide (X < A.fr) = true := decide_eq_true k1
                    have hb' := hid (hkeep.out fun h => by have := (hgd.out.1 h).1; omega)
                    go_wp2_with fail
                    go_roundw
                    case rel => exact ⟨j + 1, by omega, by go_num, ⟨_, rfl, hb'⟩, hT3, hb3⟩
                    case measure => simp [intOf]; omega
                  · have d1 : decide (X < A.fr) = false := decide_eq_false k1
                    by_cases k2 : 1099511627776 < X
                    · have d2 : decide (1099511627776 < X) = true := decide_eq_true k2
                      have hb' := hid (hkeep.out fun h => by have := (hgd.out.1 h).2.1; simp only [maxT] at this; omega)
                      go_wp2_with fail
                      go_roundw
                      case rel => exact ⟨j + 1, by omega, by go_num, ⟨_, rfl, hb'⟩, hT3, hb3⟩
                      case measure => simp [intOf]; omega
                    · have d2 : decide (1099511627776 < X) = false := decide_eq_false k2
                      have kOX := kO.out X (by omega) (by omega) wr.drew (bnext Bw0 (drew_below _))
                      have kLX := fun w => listr_len _ (hSlt.out X) w
                      generalize hcn : cnt (opn (cutsOf L) A X) = cn at *
                      replace hcn := hid hcn
                      generalize opn (cutsOf L) A X = S at *
                      by_cases k3 : 0 ≤ best
                      · have d3 : decide (0 ≤ best) = true := decide_eq_true k3
                        by_cases k4 : best ≤ X
                        · have d4 : decide (best ≤ X) = true := decide_eq_true k4
                          have hb' := hid (hkeep.out fun h => ⟨k3, k4⟩)
                          clear kOX kLX
                          go_wp2_with fail
                          go_roundw
                          case rel => exact ⟨j + 1, by omega, by go_num, ⟨_, rfl, hb'⟩, hT3, hb3⟩
                          case measure => simp [intOf]; omega
                        · have d4 : decide (best ≤ X) = false := decide_eq_false k4
                          by_cases k5 : A.count ≤ (cn : Int)
                          · have d5 : decide (A.count ≤ (cn : Int)) = true := decide_eq_true k5
                            have hb' := hid (hput.out (hgd.out.2 ⟨by omega, by simp only [maxT]; omega, k5⟩) (.inr (by omega)))
                            go_wp2_with fail
                            go_region_held (fun w' : World => w'.cell? ⟨w.heap.size, 0, none⟩ = some (.int .i64 A.count) ∧ w'.cell? ⟨w.heap.size, 1, none⟩ = some (.int .i64 A.cores) ∧ w'.cell? ⟨w.heap.size, 2, none⟩ = some (.int .i64 A.limit) ∧ w'.cell? ⟨w.heap.size, 3, none⟩ = some (.int .i64 A.fr) ∧ w'.cell? ⟨w.heap.size, 4, none⟩ = some (.int .u32 (A.nodes : Int)) ∧ w'.cell? ⟨w.heap.size, 5, none⟩ = some (.slice ba bn bc0))
                              (first | exact hS.out _ (bnext (bnext (drew_below _) hb4) hb5) | exact hS.out _ (bnext (drew_below _) hb4) | exact hS.out _ (drew_below _))
                              (first | (go_at_call 52; refine kOX.mono ?_; rintro e w4 ⟨rfl, hb4⟩) | (go_at_call 51; refine (kLX _).mono ?_; rintro e w5 ⟨ad5, k5, rfl, hb5⟩))
                            all_goals
                              have hbB := bnext (bnext (drew_below _) hb4) hb5
                              have hb6 := bnext hb3 hbB
                              have hT6 := hid (hT3.out.below hbB)
                              go_wp2_with fail
                              go_roundw
                              case rel => exact ⟨j + 1, by omega, by go_num, ⟨_, rfl, hb'⟩, hT6, hb6⟩
                              case measure => simp [intOf]; omega
                          · have d5 : decide (A.count ≤ (cn : Int)) = false := decide_eq_false k5
                            have hb' := hid (hkeep.out fun h => absurd (hgd.out.1 h).2.2 k5)
                            go_wp2_with fail
                            go_region_held (fun w' : World => w'.cell? ⟨w.heap.size, 0, none⟩ = some (.int .i64 A.count) ∧ w'.cell? ⟨w.heap.size, 1, none⟩ = some (.int .i64 A.cores) ∧ w'.cell? ⟨w.heap.size, 2, none⟩ = some (.int .i64 A.limit) ∧ w'.cell? ⟨w.heap.size, 3, none⟩ = some (.int .i64 A.fr) ∧ w'.cell? ⟨w.heap.size, 4, none⟩ = some (.int .u32 (A.nodes : Int)) ∧ w'.cell? ⟨w.heap.size, 5, none⟩ = some (.slice ba bn bc0))
                              (first | exact hS.out _ (bnext (bnext (drew_below _) hb4) hb5) | exact hS.out _ (bnext (drew_below _) hb4) | exact hS.out _ (drew_below _))
                              (first | (go_at_call 52; refine kOX.mono ?_; rintro e w4 ⟨rfl, hb4⟩) | (go_at_call 51; refine (kLX _).mono ?_; rintro e w5 ⟨ad5, k5, rfl, hb5⟩))
                            all_goals
                              have hbB := bnext (bnext (drew_below _) hb4) hb5
                              have hb6 := bnext hb3 hbB
                              have hT6 := hid (hT3.out.below hbB)
                              go_wp2_with fail
                              go_roundw
                              case rel => exact ⟨j + 1, by omega, by go_num, ⟨_, rfl, hb'⟩, hT6, hb6⟩
                              case measure => simp [intOf]; omega
                      · have d3 : decide (0 ≤ best) = false := decide_eq_false k3
                        by_cases k5 : A.count ≤ (cn : Int)
                        · have d5 : decide (A.count ≤ (cn : Int)) = true := decide_eq_true k5
                          have hb' := hid (hput.out (hgd.out.2 ⟨by omega, by simp only [maxT]; omega, k5⟩) (.inl (by omega)))
                          go_wp2_with fail
                          go_region_held (fun w' : World => w'.cell? ⟨w.heap.size, 0, none⟩ = some (.int .i64 A.count) ∧ w'.cell? ⟨w.heap.size, 1, none⟩ = some (.int .i64 A.cores) ∧ w'.cell? ⟨w.heap.size, 2, none⟩ = some (.int .i64 A.limit) ∧ w'.cell? ⟨w.heap.size, 3, none⟩ = some (.int .i64 A.fr) ∧ w'.cell? ⟨w.heap.size, 4, none⟩ = some (.int .u32 (A.nodes : Int)) ∧ w'.cell? ⟨w.heap.size, 5, none⟩ = some (.slice ba bn bc0))
                            (first | exact hS.out _ (bnext (bnext (drew_below _) hb4) hb5) | exact hS.out _ (bnext (drew_below _) hb4) | exact hS.out _ (drew_below _))
                            (first | (go_at_call 52; refine kOX.mono ?_; rintro e w4 ⟨rfl, hb4⟩) | (go_at_call 51; refine (kLX _).mono ?_; rintro e w5 ⟨ad5, k5, rfl, hb5⟩))
                          all_goals
                            have hbB := bnext (bnext (drew_below _) hb4) hb5
                            have hb6 := bnext hb3 hbB
                            have hT6 := hid (hT3.out.below hbB)
                            go_wp2_with fail
                            go_roundw
                            case rel => exact ⟨j + 1, by omega, by go_num, ⟨_, rfl, hb'⟩, hT6, hb6⟩
                            case measure => simp [intOf]; omega
                        · have d5 : decide (A.count ≤ (cn : Int)) = false := decide_eq_false k5
                          have hb' := hid (hkeep.out fun h => absurd (hgd.out.1 h).2.2 k5)
                          go_wp2_with fail
                          go_region_held (fun w' : World => w'.cell? ⟨w.heap.size, 0, none⟩ = some (.int .i64 A.count) ∧ w'.cell? ⟨w.heap.size, 1, none⟩ = some (.int .i64 A.cores) ∧ w'.cell? ⟨w.heap.size, 2, none⟩ = some (.int .i64 A.limit) ∧ w'.cell? ⟨w.heap.size, 3, none⟩ = some (.int .i64 A.fr) ∧ w'.cell? ⟨w.heap.size, 4, none⟩ = some (.int .u32 (A.nodes : Int)) ∧ w'.cell? ⟨w.heap.size, 5, none⟩ = some (.slice ba bn bc0))
                            (first | exact hS.out _ (bnext (bnext (drew_below _) hb4) hb5) | exact hS.out _ (bnext (drew_below _) hb4) | exact hS.out _ (drew_below _))
                            (first | (go_at_call 52; refine kOX.mono ?_; rintro e w4 ⟨rfl, hb4⟩) | (go_at_call 51; refine (kLX _).mono ?_; rintro e w5 ⟨ad5, k5, rfl, hb5⟩))
                          all_goals
                            have hbB := bnext (bnext (drew_below _) hb4) hb5
                            have hb6 := bnext hb3 hbB
                            have hT6 := hid (hT3.out.below hbB)
                            go_wp2_with fail
                            go_roundw
                            case rel => exact ⟨j + 1, by omega, by go_num, ⟨_, rfl, hb'⟩, hT6, hb6⟩
                            case measure => simp [intOf]; omega
                · have hje3 : zl = j := by omega
                  subst hje3
                  by_cases k3 : best < 0
                  · have d3 : decide (best < 0) = true := decide_eq_true k3
                    have hfin := hid (show FitR (cutsOf L) A 0 0 120 from .inl ⟨h1.out, h2.out, BestIs.none_ (Z := Z2) (by rw [hzl.out]; exact hbest.out) hcz.out h1.out h2.out k3⟩)
                    go_wp2
                    go_ret3
                    exact ⟨0, 0, 120, rfl, hfin.out, Bw0⟩
                  · have d3 : decide (best < 0) = false := decide_eq_false k3
                    obtain ⟨hg, hfi⟩ := BestIs.some_ (Z := Z2) (by rw [hzl.out]; exact hbest.out) hcz.out h1.out h2.out (show 0 ≤ best by omega)
                    have hfin := hid (show FitR (cutsOf L) A best (lowk (opn (cutsOf L) A best) A.count.toNat 32) 0 from .inl ⟨h1.out, h2.out, hfi⟩)
                    have kOX := kO.out best (by omega) hg.2.1 wr.drew (bnext Bw0 (drew_below _))
                    have kF := fun w => Nd.firstr_any (opn (cutsOf L) A best) A.count (hSlt.out best) w
                    rw [show firstP (opn (cutsOf L) A best) A.count = (lowk (opn (cutsOf L) A best) A.count.toNat 32, true) from if_neg (by have := h2.out.1.1; have := hg.2.2; omega)] at kF
                    clear hfi hg
                    generalize lowk (opn (cutsOf L) A best) A.count.toNat 32 = R at *
                    generalize opn (cutsOf L) A best = S at *
                    go_wp2_with fail
                    go_region_held (fun w' : World => w'.cell? ⟨w.heap.size, 0, none⟩ = some (.int .i64 A.count) ∧ w'.cell? ⟨w.heap.size, 1, none⟩ = some (.int .i64 A.cores) ∧ w'.cell? ⟨w.heap.size, 2, none⟩ = some (.int .i64 A.limit) ∧ w'.cell? ⟨w.heap.size, 3, none⟩ = some (.int .i64 A.fr) ∧ w'.cell? ⟨w.heap.size, 4, none⟩ = some (.int .u32 (A.nodes : Int)) ∧ w'.cell? ⟨w.heap.size, 5, none⟩ = some (.slice ba bn bc0))
                      (first | exact hS.out _ (bnext (bnext (drew_below _) hb4) hb5) | exact hS.out _ (bnext (drew_below _) hb4) | exact hS.out _ (drew_below _))
                      (first | (go_at_call 52; refine kOX.mono ?_; rintro e w4 ⟨rfl, hb4⟩) | (go_at_call 53; refine (kF _).mono ?_; rintro e w5 ⟨rfl, hb5⟩))
                    all_goals
                      have hbf := bnext Bw0 (bnext (bnext (drew_below _) hb4) hb5)
                      go_wp2
                      go_ret3
                      exact ⟨best, R, 0, rfl, hfin.out, hbf⟩
    · rw [askB_no h2] at kK
      have hfin := hid (show FitR (cutsOf L) A 0 0 2 from .inr ⟨fun h => h2 h.2, rfl, rfl, rfl⟩)
      replace hask := hid hask
      replace hn := hid hn
      replace hs := hid hs
      replace hat := hid hat
      replace hbn := hid hbn
      replace hbs := hid hbs
      replace hba := hid hba
      replace h1 := hid h1
      replace h2 := hid h2
      go_enter Try.func23, Try.ntmps23
      go_wp2_with fail
      generalize w.alloc (.cells (A.cells ba bn bc0) 44) = wa at *
      refine kR.mono ?_
      rintro e w1 ⟨rfl, hb1⟩
      have hB1 := bnext b0 hb1
      have hask1 := hask.out.below hb1
      have e0 := hask1.c0
      have e1 := hask1.c1
      have e2 := hask1.c2
      have e3 := hask1.c3
      have e4 := hask1.c4
      have e5 := hask1.c5
      clear hask1
      go_wp2_with fail
      refine (kK _ hB1).mono ?_
      rintro e w2 ⟨rfl, hb2⟩
      have hB2 := bnext hB1 hb2
      go_wp2
      go_ret3
      exact ⟨0, 0, 2, rfl, hfin.out, hB2⟩
  · rw [rightPB_no h1] at kR
    have hfin := hid (show FitR (cutsOf L) A 0 0 2 from .inr ⟨fun h => h1 h.1, rfl, rfl, rfl⟩)
    replace hask := hid hask
    replace hn := hid hn
    replace hs := hid hs
    replace hat := hid hat
    replace hbn := hid hbn
    replace hbs := hid hbs
    replace hba := hid hba
    replace h1 := hid h1
    go_enter Try.func23, Try.ntmps23
    go_wp2_with fail
    generalize w.alloc (.cells (A.cells ba bn bc0) 44) = wa at *
    refine kR.mono ?_
    rintro e w1 ⟨rfl, hb1⟩
    have hB1 := bnext b0 hb1
    go_wp2
    go_ret3
    exact ⟨0, 0, 2, rfl, hfin.out, hB1⟩

end Go.Proofs.Yticlpjpbjgfgmaa
