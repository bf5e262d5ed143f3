/- ProfileFits, walked. -/
import Derived.Test.YticlpjpbjgfgmaaFitsP
import Derived.Test.YticlpjpbjgfgmaaNdCount
import Derived.Deep.DeepCutAuto
namespace Go.Proofs.Yticlpjpbjgfgmaa
open Go.RowKit
open Nd (cnt lowk)

theorem early_none {P : List (List Cut)} {A : AskP} {t u : Int} {on : Nat} {e : Int} (h : FitIs P A t on e) (h1 : A.fr ≤ u) (h2 : u ≤ 1099511627776) (h3 : e ≠ 0 ∨ u < t) : (cnt (opn P A u) : Int) < A.count := by
  rcases h with ⟨k1, _, _, _, _, k6⟩ | ⟨_, _, _, k4⟩
  · rcases h3 with h3 | h3
    · exact absurd k1 h3
    · exact k6 u h1 h3
  · exact k4 u h1 h2

theorem fit_errs {P : List (List Cut)} {A : AskP} {t : Int} {on : Nat} {e : Int} (h : FitR P A t on e) : (e = 2 ∧ on = 0) ∨ (RightPr P ∧ RightAsk A ∧ FitIs P A t on e ∧ (e = 0 ∨ e = 120)) := by
  rcases h with ⟨h1, h2, h3⟩ | ⟨_, _, h3, h4⟩
  · refine .inr ⟨h1, h2, h3, ?_⟩
    rcases h3 with ⟨k, _⟩ | ⟨k, _⟩
    · exact .inl k
    · exact .inr k
  · exact .inl ⟨h4, h3⟩

set_option maxRecDepth 100000 in
set_option maxHeartbeats 4000000 in
theorem fits_any (a : Option Addr) (n c0 : Nat) (L : List Nd1) (A : AskP) (ba : Option Addr) (bn bc0 : Nat) (early : Int) (w : World) (hn : L.length = n) (hl : n ≤ 4611686018427387904) (hs : ∀ x ∈ L, x.C.length ≤ 140737488355328) (hat : PAt w a L) (hbn : A.bs.length = bn) (hbl : bn ≤ 4611686018427387904) (hbs : ∀ b ∈ A.bs, b.nodes < 4294967296) (hnd : A.nodes < 4294967296) (hba : BAt w ba A.bs) :
    Calls Try.prog 5 #[.slice a n c0, A.val ba bn bc0, .int .i64 early] w fun e w' => e = .returned (.bool true) ∧ Below w.heap.size w w' := by
  have hask := ABlk.new w A ba bn bc0
  have b0 := below_lit w (.cells (A.cells ba bn bc0) 44)
  have kB := big_any a n c0 L _ hn hl hs (hat.below b0)
  have kW := fun w => awake_any w
  have hs2 : ∀ x ∈ L, x.C.length ≤ 4611686018427387904 := fun x hx => by have := hs x hx; omega
  have kF := fun w' (h : Below w.heap.size w w') => fit_any a n c0 L A ba bn bc0 w' hn hl hs2 (hat.below h) hbn hbl hbs hnd (hba.below h)
  have kR := fun (p q : Int) w' (h : Below w.heap.size w w') => free_any a n c0 L A.nodes p q A.cores w' hn hl hs2 hnd (hat.below h)
  have kT := fun (on : Nat) (p q : Int) (hon : on < 4294967296) w' (h : Below w.heap.size w w') => take_any a n c0 L on A.cores p q w' hn hl hs2 hon (hat.below h)
  rw [show A.val ba bn bc0 = .agg (A.cells ba bn bc0) from rfl]
  unfold AskP.val AskP.cells at kF
  replace kR := hid kR
  replace kT := hid kT
  replace hn := hid hn
  replace hs := hid hs
  replace hs2 := hid hs2
  replace hat := hid hat
  replace hbn := hid hbn
  replace hbs := hid hbs
  replace hba := hid hba
  replace hask := hid hask
  go_enter Try.func5, Try.ntmps5
  go_wp2_with fail
  generalize w.alloc (.cells (A.cells ba bn bc0) 44) = wa at *
  refine kB.mono ?_
  rintro e w1 ⟨b, rfl, rfl, hbig⟩
  cases b with
  | true =>
    clear hbig
    go_wp2_with fail
    refine (kW _).mono ?_
    rintro e w2 ⟨rfl, hb2⟩
    have B2 := bnext b0 hb2
    go_wp2
    go_ret
    exact ⟨rfl, B2⟩
  | false =>
    clear hbig
    have e5 := hask.out.c5
    by_cases hb100 : 100 < bn
    · have d100 : decide ((100 : Int) < (bn : Int)) = true := decide_eq_true (by omega)
      go_wp2_with fail
      refine (kW _).mono ?_
      rintro e w2 ⟨rfl, hb2⟩
      have B2 := bnext b0 hb2
      go_wp2
      go_ret
      exact ⟨rfl, B2⟩
    · have d100 : decide ((100 : Int) < (bn : Int)) = false := decide_eq_false (by omega)
      have e0 := hask.out.c0
      have e1 := hask.out.c1
      have e2 := hask.out.c2
      have e3 := hask.out.c3
      have e4 := hask.out.c4
      go_wp2_with fail
      refine (kF _ b0).mono ?_
      rintro e w2 ⟨t, on, er, rfl, hfit, hb2⟩
      have B2 := bnext b0 hb2
      clear e0 e1 e2 e3 e4 e5 kF kB
      rcases fit_errs hfit with ⟨rfl, rfl⟩ | ⟨hr, hA, hF, her⟩
      · clear hfit
        go_wp2_with fail
        refine (kW _).mono ?_
        rintro e w3 ⟨rfl, hb3⟩
        have B3 := bnext B2 hb3
        go_wp2
        go_ret
        exact ⟨rfl, B3⟩
      · clear hfit
        have dne : (er == 2) = false := by rcases her with rfl | rfl <;> rfl
        replace her := hid her
        replace hr := hid hr
        replace hA := hid hA
        replace hF := hid hF
        have e3 := (hask.out.below hb2).c3
        go_upto_region 6 with fail
        go_cut [53] (fun s53 wx => ∃ c : Bool, s53 = .bool c ∧ Hid (c = true → A.fr ≤ early ∧ early ≤ 1099511627776 ∧ (er ≠ 0 ∨ early < t)) ∧ wx = w2)
        case first =>
          by_cases h1 : A.fr ≤ early
          · have d1 : decide (A.fr ≤ early) = true := decide_eq_true h1
            by_cases h2 : early ≤ 1099511627776
            · have d2 : decide (early ≤ 1099511627776) = true := decide_eq_true h2
              rcases her.out with he | he
              · by_cases h3 : early < t
                · have d3 : decide (early < t) = true := decide_eq_true h3
                  have hq := hid (show A.fr ≤ early ∧ early ≤ 1099511627776 ∧ (er ≠ 0 ∨ early < t) from ⟨h1, h2, .inr h3⟩)
                  have dq : (er != 0) = false := by rw [he]; rfl
                  clear h1 h2 h3 he
                  go_wp2_with fail
                  go_meet
                  exact ⟨true, rfl, hid (fun _ => hq.out), rfl⟩
                · have d3 : decide (early < t) = false := decide_eq_false h3
                  have dq : (er != 0) = false := by rw [he]; rfl
                  clear h1 h2 h3 he
                  go_wp2_with fail
                  go_meet
                  exact ⟨false, rfl, hid (fun h => by cases h), rfl⟩
              · have hq := hid (show A.fr ≤ early ∧ early ≤ 1099511627776 ∧ (er ≠ 0 ∨ early < t) from ⟨h1, h2, .inl (by omega)⟩)
                have dq : (er != 0) = true := by rw [he]; rfl
                clear h1 h2 he
                go_wp2_with fail
                go_meet
                exact ⟨true, rfl, hid (fun _ => hq.out), rfl⟩
            · have d2 : decide (early ≤ 1099511627776) = false := decide_eq_false h2
              clear h1 h2
              go_wp2_with fail
              go_meet
              exact ⟨false, rfl, hid (fun h => by cases h), rfl⟩
          · have d1 : decide (A.fr ≤ early) = false := decide_eq_false h1
            clear h1
            go_wp2_with fail
            go_meet
            exact ⟨false, rfl, hid (fun h => by cases h), rfl⟩
        case rest =>
          obtain ⟨cnd, rfl, hcnd, rfl⟩ := hcut
          clear e3
          go_upto_if 53 with fail
          go_cut [6] (fun s6 wx => Below w.heap.size w wx ∧ Hid (ABlk wx w.heap.size A ba bn bc0))
          case first =>
            cases cnd with
            | false =>
              clear hcnd
              go_wp2_with fail
              go_meet
              exact ⟨B2, hid (hask.out.below hb2)⟩
            | true =>
              obtain ⟨h1, h2, h3⟩ := hcnd.out rfl
              have hlim := hA.out.2.2.1
              have hfr := hA.out.2.2.2.1
              have hless := hid (early_none hF.out h1 h2 h3)
              have hP32 : (cutsOf L).length ≤ 32 := hr.out.2.1
              have hmB := hid (mB_opn (P := cutsOf L) (A := A) (t := early) hP32 hbs.out)
              rw [hbn.out] at hmB
              have hwr : IntKind.i64.wrap (early + A.limit) = early + A.limit := by rw [IntKind.wrap_i64]; omega
              have kFr := kR.out early (early + A.limit) wc B2
              rw [show freeA (cutsOf L) A.nodes early (early + A.limit) A.cores = (mB (cutsOf L) A early 0, 0) from if_pos ⟨hr.out, by omega, by omega, by omega⟩] at kFr
              have haskc := hask.out.below hb2
              have e1 := haskc.c1
              have e2 := haskc.c2
              have e4 := haskc.c4
              clear h3 haskc
              replace hcnd := hid hcnd
              generalize hM0 : mB (cutsOf L) A early 0 = M0 at *
              replace hM0 := hid hM0
              go_wp2_with fail
              refine kFr.mono ?_
              rintro e w3 ⟨rfl, hb3⟩
              have B3 := bnext hb2 hb3
              have e5 := (hask.out.below B3).c5
              clear kFr e1 e2 e4
              go_wp2_with fail
              go_loopw [10, 71] (fun v i wr => ∃ j : Nat, j ≤ bn ∧ v = .int .u32 (mB (cutsOf L) A early j : Int) ∧ i = .int .i64 (j : Int) ∧ Below w3.heap.size w3 wr) (fun _ i _ => bn - (intOf i).toNat)
              case atStart => exact ⟨0, Nat.zero_le _, by rw [hM0.out], rfl, Below.refl _ _⟩
              case round =>
                obtain ⟨j, hj, rfl, rfl, hbw⟩ := hrel
                have Bw := bnext B3 hbw
                have haskw := hask.out.below Bw
                have e2 := haskw.c2
                by_cases hlt : j < bn
                · have hjB : j < A.bs.length := by rw [hbn.out]; exact hlt
                  obtain ⟨b2, o2, e⟩ := hba.out.place (by omega)
                  subst e
                  obtain ⟨x0, x1, x2⟩ := (hba.out.below (bnext b0 Bw)).one hjB
                  have hb32 := hbs.out _ (List.getElem_mem hjB)
                  rw [bk_eq hjB] at x0 x1 x2 hb32
                  have hmlt := mB_lt (P := cutsOf L) (A := A) (t := early) hP32 j
                  have hand := u32_andNot_nat (mB (cutsOf L) A early j) (bk A.bs j).nodes hmlt hb32
                  have hmy := hid (fun h => mB_yes (P := cutsOf L) (A := A) (t := early) (j := j) h)
                  have hmn := hid (fun h => mB_no (P := cutsOf L) (A := A) (t := early) (j := j) h)
                  have hmeet := hid (show meets (bk A.bs j) A early ↔ (bk A.bs j).f < early + A.limit ∧ early < (bk A.bs j).t from Iff.rfl)
                  generalize mB (cutsOf L) A early j = S at *
                  generalize hnx : mB (cutsOf L) A early (j + 1) = S2 at *
                  replace hnx := hid hnx
                  generalize (bk A.bs j).nodes = X0 at *
                  generalize (bk A.bs j).f = X1 at *
                  generalize (bk A.bs j).t = X2 at *
                  obtain ⟨z0, z1, z2⟩ := cells3 (w := wr) (.int .u32 (X0 : Int)) (.int .i64 X1) (.int .i64 X2)
                  have bl := below_lit wr (.cells #[.int .u32 (X0 : Int), .int .i64 X1, .int .i64 X2] 51)
                  have hbw2 := bnext hbw bl
                  have e2' := (haskw.below bl).c2
                  clear haskw
                  by_cases k1 : X1 < early + A.limit
                  · have d1 : decide (X1 < early + A.limit) = true := decide_eq_true k1
                    by_cases k2 : early < X2
                    · have d2 : decide (early < X2) = true := decide_eq_true k2
                      have hS2 := hid (hmy.out (hmeet.out.2 ⟨k1, k2⟩))
                      go_wp2_with fail
                      go_roundw
                      case rel => exact ⟨j + 1, by omega, by rw [hnx.out, hS2.out], by go_num, hbw2⟩
                      case measure => simp [intOf]; omega
                    · have d2 : decide (early < X2) = false := decide_eq_false k2
                      have hS2 := hid (hmn.out fun h => k2 (hmeet.out.1 h).2)
                      go_wp2_with fail
                      go_roundw
                      case rel => exact ⟨j + 1, by omega, by rw [hnx.out, hS2.out], by go_num, hbw2⟩
                      case measure => simp [intOf]; omega
                  · have d1 : decide (X1 < early + A.limit) = false := decide_eq_false k1
                    have hS2 := hid (hmn.out fun h => k1 (hmeet.out.1 h).1)
                    go_wp2_with fail
                    go_roundw
                    case rel => exact ⟨j + 1, by omega, by rw [hnx.out, hS2.out], by go_num, hbw2⟩
                    case measure => simp [intOf]; omega
                · have hje : bn = j := by omega
                  subst hje
                  rw [hmB.out]
                  have hSlt : opn (cutsOf L) A early < 4294967296 := gset_lt _ _ hP32
                  have kC := Nd.count_any (opn (cutsOf L) A early) hSlt wr.drew
                  have dl : decide (A.count ≤ (cnt (opn (cutsOf L) A early) : Int)) = false := decide_eq_false (by have := hless.out; omega)
                  have e0 := haskw.c0
                  have hS0 := hid (fun w' (h : Below wr.heap.size wr w') => stay h e0)
                  clear haskw
                  generalize opn (cutsOf L) A early = S at *
                  generalize A.count = CN at *
                  go_wp2_with fail
                  go_region_held (fun w' : World => w'.cell? ⟨w.heap.size, 0, none⟩ = some (.int .i64 CN))
                    (first | exact hS0.out _ (bnext (drew_below _) hb4) | exact hS0.out _ (drew_below _))
                    (first | (go_at_call 25; refine kC.mono ?_; rintro e w4 ⟨rfl, hb4⟩))
                  all_goals
                    have hb6 := bnext B3 (bnext hbw (bnext (drew_below _) hb4))
                    go_wp2_with fail
                    go_meet
                    exact ⟨bnext b0 hb6, hid (hask.out.below hb6)⟩
          case rest =>
            obtain ⟨B3, hask3⟩ := hcut
            clear hask hcnd b0 B2 hb2 kR
            rcases her.out with he | he
            · subst he
              have hFd := found_of hA.out hF.out
              have htk := hFd.take hr.out hA.out
              have hlim := hA.out.2.2.1
              have hfr := hA.out.2.2.2.1
              have ht0 := hFd.from_
              have ht1 := hFd.hi
              simp only [maxT] at ht1
              have hwr : IntKind.i64.wrap (t + A.limit) = t + A.limit := by rw [IntKind.wrap_i64]; omega
              have kTk := kT.out on t (t + A.limit) hFd.lt wc B3
              have hright := hid (fun (M : List Nd1) (h : (cutsOf M, (0 : Int)) = takeA (cutsOf L) on A.cores t (t + A.limit)) => (take_ok h.symm).right)
              have honlt := hFd.lt
              have hcnt := hFd.cnt_
              have hwin := hFd.within hnd
              have hblk := hid (fun (b : BlkP) (hb : b ∈ A.bs) (hm : meets b A t) => hFd.block hb hm (hbs.out b hb))
              clear hFd
              replace hF := hid hF
              replace her := hid her
              have e1 := hask3.out.c1
              have e2 := hask3.out.c2
              go_wp2_with fail
              refine kTk.mono ?_
              rintro e w4 ⟨a4, c4, Q, rfl, hQ, hP4, hb4⟩
              have hQr := hid (fun (h : (takeA (cutsOf L) on A.cores t (t + A.limit)).2 = 0) => hright.out Q (Prod.ext hQ h.symm))
              have hQl := hid (show Q.length = (takeA (cutsOf L) on A.cores t (t + A.limit)).1.length by rw [← hQ, cutsOf_len])
              have hPp := hid hP4.pat
              clear kTk hP4 hQ hright e1 e2
              have B4 := bnext B3 hb4
              have hask4 := hid (hask3.out.below hb4)
              generalize (takeA (cutsOf L) on A.cores t (t + A.limit)).1.length = ql at *
              generalize (takeA (cutsOf L) on A.cores t (t + A.limit)).2 = F at *
              have e0 := hask4.out.c0
              have e3 := hask4.out.c3
              have e4 := hask4.out.c4
              have kC := fun w => Nd.count_q on honlt w
              have kI := fun w => Nd.within_any on A.nodes honlt hnd w
              rw [hwin] at kI
              have hcq : ∀ q, Calls Try.prog 25 #[.int .u32 (on : Int)] (w4.drewN q) fun e w' => e = .returned (.int .i64 (cnt on : Int)) ∧ ∃ m, w' = w4.drewN m := fun q => (kC _).mono fun e w' h => ⟨h.1, by obtain ⟨m, hm⟩ := h.2; exact ⟨q + m, by rw [hm, World.drewN_drewN]⟩⟩
              have hiq := fun q => kI (w4.drewN q)
              have hS0 := hid (fun w' (h : Below w4.heap.size w4 w') => And.intro (stay h e0) (And.intro (stay h e3) (stay h e4)))
              have dcn : ((cnt on : Int) != A.count) = false := by rw [hcnt]; simp
              have dfr : decide (t < A.fr) = false := decide_eq_false (by omega)
              replace hcnt := hid hcnt
              clear hwin
              go_upto_region 19 with fail
              go_cut [143] (fun s wx => s = .bool false ∧ Below w4.heap.size w4 wx)
              case first =>
                generalize A.count = X0 at *
                generalize A.fr = X3 at *
                generalize A.nodes = X4 at *
                generalize (cnt on : Int) = CN at *
                rcases htk with rfl | rfl
                · go_quiet (first | (go_at_call 25; exact hcq _) | (go_at_call 26; exact Calls.quiet_of_same (hiq _)))
                  have hb5 := below_drewN (Below.refl w4.heap.size w4) nq
                  generalize w4.drewN nq = wq at *
                  go_wp2_with fail
                  go_meet
                  exact ⟨rfl, hb5⟩
                · go_quiet (first | (go_at_call 25; exact hcq _) | (go_at_call 26; exact Calls.quiet_of_same (hiq _)))
                  have hb5 := below_drewN (Below.refl w4.heap.size w4) nq
                  generalize w4.drewN nq = wq at *
                  go_wp2_with fail
                  go_meet
                  exact ⟨rfl, hb5⟩
              case rest =>
                obtain ⟨rfl, hb5⟩ := hcut
                have B5 := bnext B4 hb5
                have hask5 := hid (hask4.out.below hb5)
                have hPp5 := hid (hPp.out.below hb5)
                clear hask4 hPp hS0 e0 e3 e4 kC kI hcq hiq dcn dfr
                have e5 := hask5.out.c5
                go_wp2_with fail
                go_loopw [147] (fun i wr => ∃ j : Nat, j ≤ bn ∧ i = .int .i64 (j : Int) ∧ Below wc.heap.size wc wr) (fun i _ => bn - (intOf i).toNat)
                case atStart => exact ⟨0, Nat.zero_le _, rfl, Below.refl _ _⟩
                case round =>
                  obtain ⟨j, hj, rfl, hbw⟩ := hrel
                  by_cases hlt : j < bn
                  · have hjB : j < A.bs.length := by rw [hbn.out]; exact hlt
                    obtain ⟨b2, o2, e⟩ := hba.out.place (by omega)
                    subst e
                    obtain ⟨x0, x1, x2⟩ := (hba.out.below (bnext B5 hbw)).one hjB
                    have hmem := List.getElem_mem hjB
                    have hb32 := hbs.out _ hmem
                    rw [bk_eq hjB] at x0 x1 x2 hb32 hmem
                    have hand := u32_and_nat (bk A.bs j).nodes on hb32 honlt
                    have hmeet := hid (fun (h1 : (bk A.bs j).f < t + A.limit) (h2 : t < (bk A.bs j).t) => hblk.out _ hmem ⟨h1, h2⟩)
                    clear hmem
                    generalize (bk A.bs j).nodes = X0 at *
                    generalize (bk A.bs j).f = X1 at *
                    generalize (bk A.bs j).t = X2 at *
                    obtain ⟨z0, z1, z2⟩ := cells3 (w := wr) (.int .u32 (X0 : Int)) (.int .i64 X1) (.int .i64 X2)
                    have bl := below_lit wr (.cells #[.int .u32 (X0 : Int), .int .i64 X1, .int .i64 X2] 51)
                    have hbw2 := bnext hbw bl
                    have e2' := ((hask5.out.below hbw).below bl).c2
                    by_cases k1 : X1 < t + A.limit
                    · have d1 : decide (X1 < t + A.limit) = true := decide_eq_true k1
                      by_cases k2 : t < X2
                      · have d2 : decide (t < X2) = true := decide_eq_true k2
                        have hz := hmeet.out k1 k2
                        rw [hz] at hand
                        have dz : (bits .and .u32 (X0 : Int) (on : Int) != 0) = false := by rw [hand]; rfl
                        clear hand hz
                        go_wp2_with fail
                        go_roundw
                        case rel => exact ⟨j + 1, by omega, by go_num, hbw2⟩
                        case measure => simp [intOf]; omega
                      · have d2 : decide (t < X2) = false := decide_eq_false k2
                        clear hand
                        go_wp2_with fail
                        go_roundw
                        case rel => exact ⟨j + 1, by omega, by go_num, hbw2⟩
                        case measure => simp [intOf]; omega
                    · have d1 : decide (X1 < t + A.limit) = false := decide_eq_false k1
                      clear hand
                      go_wp2_with fail
                      go_roundw
                      case rel => exact ⟨j + 1, by omega, by go_num, hbw2⟩
                      case measure => simp [intOf]; omega
                  · have hje : bn = j := by omega
                    subst hje
                    have B6 := bnext B5 hbw
                    rcases htk with rfl | rfl
                    · have hQ2 := hQr.out rfl
                      have hq32 : ql ≤ 32 := by rw [← hQl.out, ← cutsOf_len]; exact hQ2.2.1
                      have kQ := pright_any a4 ql c4 Q wr hQl.out (by omega) (fun x hx => by have := short_of hQ2 x hx; omega) (hPp5.out.below hbw)
                      rw [rightPB_iff.2 hQ2] at kQ
                      clear hQ2
                      go_wp2_with fail
                      refine kQ.mono ?_
                      rintro e w7 ⟨rfl, hb7⟩
                      have B7 := bnext B6 hb7
                      go_wp2_with fail
                      refine (kW _).mono ?_
                      rintro e w8 ⟨rfl, hb8⟩
                      have B8 := bnext B7 hb8
                      go_wp2
                      go_ret
                      exact ⟨rfl, B8⟩
                    · go_wp2_with fail
                      refine (kW _).mono ?_
                      rintro e w8 ⟨rfl, hb8⟩
                      have B8 := bnext B6 hb8
                      go_wp2
                      go_ret
                      exact ⟨rfl, B8⟩
            · subst he
              go_wp2_with fail
              refine (kW _).mono ?_
              rintro e w4 ⟨rfl, hb4⟩
              have B4 := bnext B3 hb4
              go_wp2
              go_ret
              exact ⟨rfl, B4⟩

end Go.Proofs.Yticlpjpbjgfgmaa
