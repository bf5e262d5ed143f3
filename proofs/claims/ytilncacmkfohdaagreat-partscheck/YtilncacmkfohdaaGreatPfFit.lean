/- Fit of the program. -/
import Derived.Test.YtilncacmkfohdaaGreatPfFitC
import Derived.Test.YtilncacmkfohdaaGreatPfFitP
namespace Go.Proofs.YtilncacmkfohdaaGreat.Pf
open Go.RowKit
open Nd (cnt lowk firstP)

theorem mapval_get {M : List Sl1} {k : Nat} {x : Sl1} (h : M[k]? = some x) : (M.map Sl1.val)[k]? = some x.val := by rw [List.getElem?_map, h]; rfl

/-- The row of all nodes' spans, as it is laid into its variable. -/
theorem fs_new {w0 w : World} {base h n cap : Nat} {M : List Sl1} (hP : ROwn w base (.slice (some ⟨h, 0, none⟩) n cap) M) (hM : M.length = n) (hb : w0.heap.size ≤ base) (hs : ∀ x ∈ M, x.L.length ≤ 100000) (hbel : Below w0.heap.size w0 w) :
    FSt w0 (w.alloc (.cells #[.slice (some ⟨h, 0, none⟩) n cap] 66)) w.heap.size h n cap M := by
  have bl := below_lit w (.cells #[.slice (some ⟨h, 0, none⟩) n cap] 66)
  have hrow := owns_below (owns_low hP.own hb) bl
  rw [hM] at hrow
  refine ⟨One.new _ _ _, hrow, hM, fun x hx => ?_, fun x hx => ⟨?_, hs x hx⟩, fun x hx => ?_, (owns_blk hP.own).2, ?_, bnext hbel bl⟩
  · exact owns_cat ((hP.inner x hx).below bl)
  · obtain ⟨a, c, e, h1⟩ := owns_form (hP.inner x hx)
    simp only [Value.slice.injEq] at e
    rw [e.2.2]; exact h1
  · cases ha : x.a with
    | none => exact .inl rfl
    | some y =>
      have hi := hP.inner x hx
      rw [ha] at hi
      have hof := hP.off x hx y ha
      rcases hi.2 with ⟨e, _⟩ | ⟨g, cp, cur, e, h1, h2, _⟩
      · simp at e
      · simp only [Value.slice.injEq, Option.some.injEq] at e
        refine .inr ⟨g, 0, by rw [e.1], fun e2 => hof ?_, (Array.getElem?_eq_some_iff.1 h2).1⟩
        rw [e.1, e2]; rfl
  · exact hbel.size

def tOf (v : Value) (w : World) : Int := match v with
  | .pointer (some a) => intOf ((w.cell? a).getD (.int .i64 0))
  | _ => 0

theorem tOf_one {w : World} {g t : Nat} {x : Int} (h : One w g (.int .i64 x) t) : tOf (.pointer (some ⟨g, 0, none⟩)) w = x := by
  unfold tOf; simp only [h.cell]; rfl

/-- What holds while a place is looked for. -/
structure FL (wa w : World) (P : List (List Cut)) (A : AskP) (gc h n cap gt : Nat) (M : List Sl1) (t : Int) : Prop where
  fs : FSt wa w gc h n cap M
  one : One w gt (.int .i64 t) 2
  good : GoodM P A t M
  gt_ : gc < gt
  from_ : A.fr ≤ t
  hi : t ≤ 9223372036854775807
  none_ : ∀ u, A.fr ≤ u → u < t → u ≤ maxT → (cnt (opn P A u) : Int) < A.count

/-- What holds while the open nodes are gathered. -/
def GR (wa : World) (gc h n cap gt gn : Nat) (M : List Sl1) (s : Nat) (t : Int) (k : Nat) (w : World) : Prop :=
  ∃ M', FSt wa w gc h n cap M' ∧ Upd M s t k M' ∧ One w gt (.int .i64 t) 2 ∧ One w gn (.int .i64 (nxT M s t k)) 2

theorem gather_fit (wa : World) (gc h n cap gt gn : Nat) (M : List Sl1) (s : Nat) (t : Int) (w : World) (hn : n ≤ 32) (hs : s < 4294967296) (f : FSt wa w gc h n cap M) (ht : One w gt (.int .i64 t) 2) (hx : One w gn (.int .i64 9223372036854775807) 2) (hgt : gc < gt) (hgn : gt < gn) :
    Calls Tryz.prog 24 #[.int .i64 (n : Int), .int .u32 (s : Int), .func (.func 25) #[] #[ptr gc, ptr gt, ptr gn]] w fun e w' => e = .returned (.int .u32 (gset s (fun k => !(tl M t k).2) n : Int)) ∧ GR wa gc h n cap gt gn M s t n w' := by
  have hlen := f.len
  refine gather46 n s _ gc gt gn (GR wa gc h n cap gt gn M s t) w hn hs ⟨M, f, Upd.zero M s t, ht, hx⟩ ?_ ?_
  · rintro k w' hk hb ⟨M', f1, f2, f3, f4⟩
    refine ⟨M', f1, f2.skip hb, f3, ?_⟩
    rw [show nxT M s t (k + 1) = nxT M s t k from if_neg (by rw [hb]; simp)]
    exact f4
  · rintro k w' hk hb ⟨M', f1, f2, f3, f4⟩
    have hkM : k < M'.length := by rw [f1.len]; exact hk
    obtain ⟨x, hx1, hx2⟩ := f2.2 k M'[k] (List.getElem?_eq_getElem hkM)
    rw [if_neg (by omega)] at hx2
    refine (fit1_any wa gc h n cap gt gn M' k t _ w' hn hk f1 f3 f4 hgt hgn M'[k] (List.getElem?_eq_getElem hkM)).mono ?_
    rintro e w2 ⟨y, hy1, rfl, f5, f6, f7⟩
    rw [hx2] at hy1 f7 ⊢
    have e1 : tl M t k = till (ah t x.L) t := by unfold tl; rw [hx1]
    refine ⟨by rw [e1], M'.set k y, f5, f2.put hb hx1 hy1, f6, ?_⟩
    have e2 : nxT M s t (k + 1) = if (till (ah t x.L) t).2 = true then min (nxT M s t k) (till (ah t x.L) t).1 else nxT M s t k := by
      show (if s.testBit k = true ∧ (tl M t k).2 = true then min (nxT M s t k) (tl M t k).1 else nxT M s t k) = _
      rw [e1]
      by_cases hc : (till (ah t x.L) t).2 = true
      · rw [if_pos ⟨hb, hc⟩, if_pos hc]
      · rw [if_neg fun h => hc h.2, if_neg hc]
    rw [e2]
    exact f7

def FTold (P : List (List Cut)) (A : AskP) (w : World) (e : Ending) (w' : World) : Prop := ∃ t on er, e = .returned (.tuple #[.int .i64 t, .int .u32 ((on : Nat) : Int), .int .i64 er]) ∧ FitR P A t on er ∧ Below w.heap.size w w'

set_option maxRecDepth 100000 in
set_option maxHeartbeats 2000000 in
theorem fit_any (a : Option Addr) (n c0 : Nat) (L : List Nd1) (A : AskP) (ba : Option Addr) (bn bc0 : Nat) (w : World) (hn : L.length = n) (hl : n ≤ 4611686018427387904) (hs : ∀ x ∈ L, x.C.length ≤ 4611686018427387904) (hat : PAt w a L) (hbn : A.bs.length = bn) (hbl : bn ≤ 4611686018427387904) (hbs : ∀ b ∈ A.bs, b.nodes < 4294967296) (hnd : A.nodes < 4294967296) (hba : BAt w ba A.bs) :
    Calls Tryz.prog 9 #[.slice a n c0, A.val ba bn bc0] w fun e w' => FTold (cutsOf L) A w e w' := by
  have hask := ABlk.new w A ba bn bc0
  have b0 := below_lit w (.cells (A.cells ba bn bc0) 50)
  have hsz := size_alloc w (.cells (A.cells ba bn bc0) 50)
  have kR := pright_any a n c0 L _ hn hl hs (hat.below b0)
  have kK := fun w' (h : Below w.heap.size w w') => isask_any A ba bn bc0 w' hbn hbl (hba.below h)
  rw [show A.val ba bn bc0 = .agg (A.cells ba bn bc0) from rfl]
  unfold AskP.val AskP.cells at kK
  by_cases h1 : RightPr (cutsOf L)
  · rw [rightPB_iff.2 h1] at kR
    by_cases h2 : RightAsk A
    · rw [askB_iff.2 h2] at kK
      have hn32 : n ≤ 32 := by have := h1.2.1; rw [cutsOf_len, hn] at this; exact this
      have hn0 : 0 < n := by have := h1.1; rw [cutsOf_len, hn] at this; exact this
      have kT := fun w' (h : Below w.heap.size w w') => times_any a n c0 L A ba bn bc0 w' hn h1 (hat.below h) h2 hbn hbs (hba.below h)
      unfold AskP.val AskP.cells at kT
      replace hask := hid hask
      replace hn := hid hn
      replace hs := hid hs
      replace hat := hid hat
      replace hbn := hid hbn
      replace hbs := hid hbs
      replace hba := hid hba
      replace h1 := hid h1
      replace h2 := hid h2
      go_enter Tryz.func9, Tryz.ntmps9
      go_wp2_with fail
      generalize w.alloc (.cells (A.cells ba bn bc0) 50) = wa at *
      refine kR.mono ?_
      rintro e w1 ⟨rfl, hb1⟩
      have hB1 := bnext b0 hb1
      have hask1 := hask.out.below hb1
      have e0 := hask1.c0
      have e1 := hask1.c1
      have e2 := hask1.c2
      have e3 := hask1.c3
      have e4 := hask1.c4
      have e5 := hask1.c5
      clear hask1
      go_wp2_with fail
      refine (kK _ hB1).mono ?_
      rintro e w2 ⟨rfl, hb2⟩
      have hB2 := bnext hB1 hb2
      have hb12 := bnext hb1 hb2
      clear e0 e1 e2 e3 e4 e5
      have hask2 := hask.out.below hb12
      have e0 := hask2.c0
      have e1 := hask2.c1
      have e2 := hask2.c2
      have e3 := hask2.c3
      have e4 := hask2.c4
      have e5 := hask2.c5
      clear hask2
      go_wp2_with fail
      refine (kT _ hB2).mono ?_
      rintro e w3 ⟨ad, cap, M0, rfl, hM, hcM, hP, hb3⟩
      rw [hn.out] at hM hP ⊢
      clear e0 e1 e2 e3 e4 e5
      have hb13 := bnext hb12 hb3
      obtain ⟨h, rfl, hh⟩ : ∃ h, ad = some ⟨h, 0, none⟩ ∧ h < w3.heap.size := by
        rcases hP.own.2 with ⟨_, e⟩ | ⟨g, cp, cur, e, _, e2, _⟩
        · omega
        · simp only [Value.slice.injEq] at e
          exact ⟨g, e.1, (Array.getElem?_eq_some_iff.1 e2).1⟩
      have fs0 := fs_new (w0 := wa) hP hM hb12.size (fun x hx => by
        obtain ⟨i, hi, rfl⟩ := List.getElem_of_mem hx
        have h3 := (hcM i M0[i] (List.getElem?_eq_getElem hi)).2.2
        have hiL : i < L.length := by rw [hn.out, ← hM]; exact hi
        have h4 := rawB_len (rawC ((cutsOf L).getD i []) A.cores A.limit ((cutsOf L).getD i []).length) i A.limit A.bs A.bs.length
        have h5 := rawC_len ((cutsOf L).getD i []) A.cores A.limit ((cutsOf L).getD i []).length
        have h6 := (h1.out.2.2 ((cutsOf L).getD i []) (by rw [cutsOf_get hiL]; exact List.mem_map.2 ⟨_, List.getElem_mem hiL, rfl⟩)).2.1
        have h7 := h2.out.2.2.2.2.1
        unfold rawL at h3
        omega) hb13
      have good0 := good_first h1.out h2.out (hM.trans hn.out.symm) hcM
      have fl0 := hid (show FL wa ((w3.alloc (.cells #[.slice (some ⟨h, 0, none⟩) n cap] 66)).alloc (.cells #[.int .i64 A.fr] 2)) (cutsOf L) A w3.heap.size h n cap (w3.heap.size + 1) M0 A.fr from by
        have o1 := One.new (w3.alloc (.cells #[.slice (some ⟨h, 0, none⟩) n cap] 66)) (.int .i64 A.fr) 2
        rw [size_alloc] at o1
        exact ⟨fs0.below (below_lit _ _), o1, good0, by omega, Int.le_refl _, by have := h2.out.2.2.2.1; omega, fun u h1 h2 => by omega⟩)
      have e3 := (hask.out.below (bnext hb13 (below_lit w3 (.cells #[.slice (some ⟨h, 0, none⟩) n cap] 66)))).c3
      clear fs0 good0 hP hcM
      go_wp2_with fail
      go_loopw [8] (fun v wr => ∃ (gt : Nat) (M : List Sl1) (t : Int), v = .pointer (some ⟨gt, 0, none⟩) ∧ Hid (FL wa wr (cutsOf L) A w3.heap.size h n cap gt M t)) (fun v wr => (1099511627777 - tOf v wr).toNat)
      case atStart => exact ⟨_, _, _, rfl, fl0⟩
      case round =>
        obtain ⟨gt, M, t, rfl, hF⟩ := hrel
        have ct := hF.out.one.cell
        by_cases ht : t ≤ 1099511627776
        · have dt : decide (t ≤ 1099511627776) = true := decide_eq_true ht
          have bl := below_lit wr (.cells #[.int .i64 9223372036854775807] 2)
          have kG := gather_fit wa w3.heap.size h n cap gt wr.heap.size M A.nodes t _ hn32 hnd (hF.out.fs.below bl) (hF.out.one.below bl) (One.new _ _ _) hF.out.gt_ hF.out.one.lt
          unfold ptr at kG
          have haskn := hask.out.below (bnext hF.out.fs.bel bl)
          have e0 := haskn.c0
          have e4 := haskn.c4
          have ctn := (hF.out.one.below bl).cell
          have hlen := hid hF.out.fs.len
          have hS := hid (hF.out.good.open_ ht (by rw [hF.out.fs.len, cutsOf_len, hn.out]))
          rw [cutsOf_len, hn.out] at hS
          have hSlt := gset_lt A.nodes (fun k => !(tl M t k).2) hn32
          generalize gset A.nodes (fun k => !(tl M t k).2) n = S at *
          have hbox := hid hF.out.fs.box
          go_wp2_with fail
          generalize wr.alloc (.cells #[.int .i64 9223372036854775807] 2) = wn at *
          refine kG.mono ?_
          rintro e w4 ⟨rfl, M', g1, g2, g3, g4⟩
          have hb4 := g1.bel
          have hask4 := hask.out.below hb4
          have e0' := hask4.c0
          have hF4 := hid hF.out
          replace g1 := hid g1
          replace g2 := hid g2
          clear hask4 e0 e4 haskn hF ct ctn
          by_cases hen : A.count ≤ (cnt S : Int)
          · have kF := fun w => Nd.first_any S A.count hSlt w
            rw [show firstP S A.count = (lowk S A.count.toNat 32, true) from if_neg (by have := h2.out.1.1; omega)] at kF
            have hfin := hid (show FitR (cutsOf L) A t (lowk S A.count.toNat 32) 0 from .inl ⟨h1.out, h2.out, .inl ⟨rfl, hF4.out.from_, ht, by rw [hS.out]; exact hen, by rw [hS.out], fun u k1 k2 => hF4.out.none_ u k1 k2 (by simp only [maxT]; omega)⟩⟩)
            generalize lowk S A.count.toNat 32 = R at *
            go_wp2_with fail
            refine (kF _).mono ?_
            rintro e w5 ⟨rfl, hb5⟩
            have ct5 := (g3.below hb5).cell
            have hB5 := bnext (bnext b0 hb4) hb5
            go_wp2
            go_ret3
            exact ⟨t, R, 0, rfl, hfin.out, hB5⟩
          · have kF := fun w => Nd.first_any S A.count hSlt w
            rw [show firstP S A.count = (0, false) from if_pos (by omega)] at kF
            have hg := hF4.out.good.nx (s := A.nodes) ht n (Nat.le_of_eq hF4.out.fs.len.symm)
            have hnone := hid (show ∀ u, A.fr ≤ u → u < nxT M A.nodes t n → u ≤ maxT → (cnt (opn (cutsOf L) A u) : Int) < A.count from fun u k1 k2 k3 => by
              rcases Int.lt_or_le u t with k4 | k4
              · exact hF4.out.none_ u k1 k4 k3
              · have := hF4.out.good.less (by rw [hF4.out.fs.len, cutsOf_len, hn.out]) k4 (by rw [cutsOf_len, hn.out]; exact k2) k3
                rw [hS.out] at this
                omega)
            have hgood := hid (hF4.out.good.upd g2.out (u := nxT M A.nodes t n) (by omega))
            have hfr := hF4.out.from_
            have hgg := hF4.out.gt_
            generalize nxT M A.nodes t n = X at *
            go_wp2_with fail
            refine (kF _).mono ?_
            rintro e w5 ⟨rfl, hb5⟩
            have g35 := g3.below hb5
            have g45 := g4.below hb5
            have ct5 := g35.cell
            have ft5 := g35.free
            have cx5 := g45.cell
            have fl5 := hid (show FL wa ((w5.setCell ⟨gt, 0, none⟩ (.int .i64 X)).alloc (.cells #[.int .i64 X] 2)) (cutsOf L) A w3.heap.size h n cap (w5.setCell ⟨gt, 0, none⟩ (.int .i64 X)).heap.size M' X from by
              have f6 := (g1.out.below hb5).other hgg (.int .i64 X)
              exact ⟨f6.below (below_lit _ _), One.new _ _ _, hgood.out, f6.box.lt, by omega, by omega, hnone.out⟩)
            rw [show (w5.setCell ⟨gt, 0, none⟩ (.int .i64 X)).heap.size = w5.heap.size by simp [World.setCell]] at fl5
            clear kG kF
            go_wp2_with fail
            go_roundw
            case rel => exact ⟨_, _, _, rfl, fl5⟩
            case measure =>
              rw [tOf_one fl5.out.one, tOf_one hF4.out.one]
              omega
        · have dt : decide (t ≤ 1099511627776) = false := decide_eq_false ht
          have hfin := hid (show FitR (cutsOf L) A 0 0 120 from .inl ⟨h1.out, h2.out, .inr ⟨rfl, rfl, rfl, fun u k1 k2 => hF.out.none_ u k1 (by simp only [maxT] at k2; omega) k2⟩⟩)
          have hB5 := bnext b0 hF.out.fs.bel
          go_wp2
          go_ret3
          exact ⟨0, 0, 120, rfl, hfin.out, hB5⟩
    · rw [askB_no h2] at kK
      have hfin := hid (show FitR (cutsOf L) A 0 0 2 from .inr ⟨fun h => h2 h.2, rfl, rfl, rfl⟩)
      replace hask := hid hask
      replace hn := hid hn
      replace hs := hid hs
      replace hat := hid hat
      replace hbn := hid hbn
      replace hbs := hid hbs
      replace hba := hid hba
      replace h1 := hid h1
      replace h2 := hid h2
      go_enter Tryz.func9, Tryz.ntmps9
      go_wp2_with fail
      generalize w.alloc (.cells (A.cells ba bn bc0) 50) = wa at *
      refine kR.mono ?_
      rintro e w1 ⟨rfl, hb1⟩
      have hB1 := bnext b0 hb1
      have hask1 := hask.out.below hb1
      have e0 := hask1.c0
      have e1 := hask1.c1
      have e2 := hask1.c2
      have e3 := hask1.c3
      have e4 := hask1.c4
      have e5 := hask1.c5
      clear hask1
      go_wp2_with fail
      refine (kK _ hB1).mono ?_
      rintro e w2 ⟨rfl, hb2⟩
      have hB2 := bnext hB1 hb2
      go_wp2
      go_ret3
      exact ⟨0, 0, 2, rfl, hfin.out, hB2⟩
  · rw [rightPB_no h1] at kR
    have hfin := hid (show FitR (cutsOf L) A 0 0 2 from .inr ⟨fun h => h1 h.1, rfl, rfl, rfl⟩)
    replace hask := hid hask
    replace hn := hid hn
    replace hs := hid hs
    replace hat := hid hat
    replace hbn := hid hbn
    replace hbs := hid hbs
    replace hba := hid hba
    replace h1 := hid h1
    go_enter Tryz.func9, Tryz.ntmps9
    go_wp2_with fail
    generalize w.alloc (.cells (A.cells ba bn bc0) 50) = wa at *
    refine kR.mono ?_
    rintro e w1 ⟨rfl, hb1⟩
    have hB1 := bnext b0 hb1
    go_wp2
    go_ret3
    exact ⟨0, 0, 2, rfl, hfin.out, hB1⟩

end Go.Proofs.YtilncacmkfohdaaGreat.Pf
