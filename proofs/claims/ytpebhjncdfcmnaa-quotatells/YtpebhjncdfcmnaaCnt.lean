/- How many cores run: for an account, for a quality. -/
import Derived.Test.YtpebhjncdfcmnaaQual
namespace Go.Proofs.Ytpebhjncdfcmnaa
open Go.RowKit

theorem lit_cell (w : World) (e : Nat) (vs : Array Value) (r : Nat) (v : Value) (h : vs[r]? = some v) : (w.alloc (.cells vs e)).cell? ⟨w.heap.size, r, none⟩ = some v := by
  have hh : (w.alloc (.cells vs e)).heap[w.heap.size]? = some (.cells vs e (0, 0)) := heap_alloc_new w _
  unfold World.cell?
  simp only [hh]
  simp [h]

theorem alloc_setRow (w : World) (old cs : Array Value) (T : TypeId) : (w.alloc (.cells old T)).setRow w.heap.size cs = w.alloc (.cells cs T) := by
  unfold World.setRow World.alloc
  congr 1
  apply Array.ext
  · simp
  · intro k h1 h2
    simp only [Array.getElem_modify]
    split
    · rename_i hk
      subst hk
      simp
    · rename_i hk
      have : k < w.heap.size := by simp at h2; omega
      rw [Array.getElem_push_lt this, Array.getElem_push_lt this]

theorem jc_all (J : Job) : (jc J).toArray.all (·.oneCell') = true := by simp [jc, Value.oneCell']

theorem cores64 (s : Spc) (w : World) : Calls Try.prog 64 #[.agg (sc s).toArray] w fun e w' => e = .returned (.int .i64 (cor s)) ∧ Below w.heap.size w w' := by
  obtain ⟨su, sa, sq, sp, sn, sk, sl, da, dn, dc⟩ := s
  change Calls Try.prog 64 #[.agg #[.string su, .string sa, .string sq, .string sp, .int .i64 sn, .int .i64 sk, .int .i64 sl, .slice da dn dc]] w _
  go_enter Try.func64, Try.ntmps64
  go_wp2
  go_ret
  exact ⟨rfl, below_lit _ _⟩

theorem is59 (s : Spc) (g : Nat) (n : ByteArray) (w : World) (hg : w.cell? ⟨g, 0, none⟩ = some (.string n)) :
    Calls Try.prog 59 #[.agg (sc s).toArray, ptr g] w fun r w' => r = .returned (.bool (decide (s.qos = n))) ∧ Below w.heap.size w w' := by
  obtain ⟨su, sa, sq, sp, sn, sk, sl, da, dn, dc⟩ := s
  change Calls Try.prog 59 #[.agg #[.string su, .string sa, .string sq, .string sp, .int .i64 sn, .int .i64 sk, .int .i64 sl, .slice da dn dc], ptr g] w _
  dsimp only
  have hlt := World.block_lt_of_cell? w _ hg
  have hg2 := stay (below_lit w (.cells #[.string su, .string sa, .string sq, .string sp, .int .i64 sn, .int .i64 sk, .int .i64 sl, .slice da dn dc] 32)) hg
  by_cases h : sq = n
  · have h1 := text_eq h
    go_enter Try.func59, Try.ntmps59
    go_wp2
    go_ret
    exact ⟨rfl, below_lit _ _⟩
  · have h1 := text_ne h
    go_enter Try.func59, Try.ntmps59
    go_wp2
    go_ret
    exact ⟨rfl, below_lit _ _⟩

theorem is55 (s : Spc) (g : Nat) (ta : Option Addr) (tk tc : Nat) (T : List ByteArray) (w : World) (hg : w.cell? ⟨g, 0, none⟩ = some (.slice ta tk tc)) (hT : T.length = tk) (hl : tk ≤ 4611686018427387904) (hat : TAt w ta T) :
    Calls Try.prog 55 #[.agg (sc s).toArray, ptr g] w fun r w' => r = .returned (.bool (hasB T s.acct)) ∧ Below w.heap.size w w' := by
  obtain ⟨su, sa, sq, sp, sn, sk, sl, da, dn, dc⟩ := s
  change Calls Try.prog 55 #[.agg #[.string su, .string sa, .string sq, .string sp, .int .i64 sn, .int .i64 sk, .int .i64 sl, .slice da dn dc], ptr g] w _
  dsimp only
  have hlt := World.block_lt_of_cell? w _ hg
  have bl := below_lit w (.cells #[.string su, .string sa, .string sq, .string sp, .int .i64 sn, .int .i64 sk, .int .i64 sl, .slice da dn dc] 32)
  have hg2 := stay bl hg
  have kC := contains_any ta tk tc T sa _ hT hl (hat.below bl)
  generalize hasB T sa = B at *
  replace hT := hid hT
  replace hat := hid hat
  go_enter Try.func55, Try.ntmps55
  go_wp2_with fail
  refine kC.mono ?_
  rintro e w1 ⟨rfl, rfl⟩
  go_wp2
  go_ret
  exact ⟨rfl, bl⟩

set_option maxRecDepth 100000 in
set_option maxHeartbeats 2000000 in
theorem count59 (a : Option Addr) (k c g : Nat) (L : List Job) (n : ByteArray) (w : World) (hn : L.length = k) (hl : k ≤ 4611686018427387904) (hat : JAt w a L) (hg : w.cell? ⟨g, 0, none⟩ = some (.string n)) :
    Calls Try.prog 54 #[.slice a k c, .func (.func 59) #[] #[ptr g]] w fun e w' => e = .returned (.tuple #[.int .i64 (cntP (fun s : Spc => decide (s.qos = n)) L).1, .int .i64 ((cntP (fun s : Spc => decide (s.qos = n)) L).2 : Int)]) ∧ Below w.heap.size w w' := by
  replace hn := hid hn
  replace hat := hid hat
  replace hg := hid hg
  generalize hp : (fun s : Spc => decide (s.qos = n)) = p
  go_enter Try.func54, Try.ntmps54
  go_wp2_with fail
  go_loopw [6, 7, 12] (fun x y i wr => ∃ (j Y : Nat) (X : Int), j ≤ k ∧ Y ≤ j ∧ x = .int .i64 X ∧ y = .int .i64 (Y : Int) ∧ i = .int .i64 (j : Int) ∧ Hid (cntP p (L.take j) = (X, Y)) ∧ Below w.heap.size w wr) (fun _ _ i _ => k - (intOf i).toNat)
  case atStart => exact ⟨0, 0, 0, Nat.zero_le _, Nat.le_refl _, rfl, rfl, rfl, hid rfl, Below.refl _ _⟩
  case round =>
    obtain ⟨j, Y, X, hj, hY, rfl, rfl, rfl, hok, hb⟩ := hrel
    by_cases hlt : j < k
    · have hjL : j < L.length := by rw [hn.out]; exact hlt
      obtain ⟨b, o, e⟩ := hat.out.place (by omega)
      subst e
      have hcj := hid ((hat.out.below hb).range hjL)
      have hnext := hid (cnt_next (p := p) hjL)
      rw [hok.out] at hnext
      generalize jobAt L j = J at *
      have bl := below_lit wr (.cells (jc J).toArray 53)
      have B0 := bnext hb bl
      have kS := is59 J.s g n _ (stay B0 hg.out)
      have hpJ : p J.s = decide (J.s.qos = n) := by rw [← hp]
      have kC := fun w => cores64 J.s w
      have c11 := lit_cell wr 53 (jc J).toArray 11 (.int .u8 J.st) rfl
      by_cases hst : J.st = 2
      · rw [hst] at c11
        have c3 := lit_cell wr 53 (jc J).toArray 3 (.string J.s.user) rfl
        have c4 := lit_cell wr 53 (jc J).toArray 4 (.string J.s.acct) rfl
        have c5 := lit_cell wr 53 (jc J).toArray 5 (.string J.s.qos) rfl
        have c6 := lit_cell wr 53 (jc J).toArray 6 (.string J.s.part) rfl
        have c7 := lit_cell wr 53 (jc J).toArray 7 (.int .i64 J.s.nodes) rfl
        have c8 := lit_cell wr 53 (jc J).toArray 8 (.int .i64 J.s.cores) rfl
        have c9 := lit_cell wr 53 (jc J).toArray 9 (.int .i64 J.s.lim) rfl
        have c10 := lit_cell wr 53 (jc J).toArray 10 (.slice J.s.da J.s.dn J.s.dc) rfl
        cases hB : p J.s
        · have hno := hid (cst_no (p := p) (x := (X, Y)) (j := J) (fun h => by rw [hB] at h; cases h.2))
          rw [hno.out] at hnext
          rw [hpJ] at hB
          rw [hB] at kS
          replace hB := hid hB
          replace hp := hid hp
          replace hpJ := hid hpJ
          replace hst := hid hst
          go_wp2_with (first
          | (refine wpList_load_mid rfl 53 (.tmp 14) rfl b (o + j * 17) rfl (jc J) _ hcj.out Try.underlying53 rfl (by kernel_rfl) ?_)
          | (refine wpList_store_row rfl 53 (.tmp 9) (.tmp 15) rfl wr.heap.size (jc J).toArray rfl rfl 53 _ (heap_alloc_new wr _) (by kernel_rfl) rfl (jc_all J) ?_; rw [alloc_setRow]))
          refine kS.mono ?_
          rintro e w1 ⟨rfl, hb1⟩
          have B1 := bnext B0 hb1
          go_wp2_with fail
          go_roundw
          case rel => exact ⟨j + 1, Y, X, by omega, by omega, rfl, rfl, by go_num, hnext, B1⟩
          case measure => simp [intOf]; omega
        · have hyes := hid (cst_yes (p := p) (x := (X, Y)) (j := J) hst hB)
          rw [hyes.out] at hnext
          rw [hpJ] at hB
          rw [hB] at kS
          replace hB := hid hB
          replace hp := hid hp
          replace hpJ := hid hpJ
          replace hst := hid hst
          generalize cor J.s = R at *
          go_wp2_with (first
          | (refine wpList_load_mid rfl 53 (.tmp 14) rfl b (o + j * 17) rfl (jc J) _ hcj.out Try.underlying53 rfl (by kernel_rfl) ?_)
          | (refine wpList_store_row rfl 53 (.tmp 9) (.tmp 15) rfl wr.heap.size (jc J).toArray rfl rfl 53 _ (heap_alloc_new wr _) (by kernel_rfl) rfl (jc_all J) ?_; rw [alloc_setRow]))
          refine kS.mono ?_
          rintro e w1 ⟨rfl, hb1⟩
          have B1 := bnext B0 hb1
          replace c3 := stay hb1 c3
          replace c4 := stay hb1 c4
          replace c5 := stay hb1 c5
          replace c6 := stay hb1 c6
          replace c7 := stay hb1 c7
          replace c8 := stay hb1 c8
          replace c9 := stay hb1 c9
          replace c10 := stay hb1 c10
          go_wp2_with fail
          refine (kC _).mono ?_
          rintro e w2 ⟨rfl, hb2⟩
          have B2 := bnext B1 hb2
          go_wp2_with fail
          go_roundw
          case rel => exact ⟨j + 1, Y + 1, _, by omega, by omega, rfl, by go_num, by go_num, hnext, B2⟩
          case measure => simp [intOf]; omega
      · have hno := hid (cst_no (p := p) (x := (X, Y)) (j := J) (fun h => hst h.1))
        rw [hno.out] at hnext
        replace hp := hid hp
        replace hpJ := hid hpJ
        go_wp2_with (first
          | (refine wpList_load_mid rfl 53 (.tmp 14) rfl b (o + j * 17) rfl (jc J) _ hcj.out Try.underlying53 rfl (by kernel_rfl) ?_)
          | (refine wpList_store_row rfl 53 (.tmp 9) (.tmp 15) rfl wr.heap.size (jc J).toArray rfl rfl 53 _ (heap_alloc_new wr _) (by kernel_rfl) rfl (jc_all J) ?_; rw [alloc_setRow]))
        go_roundw
        case rel => exact ⟨j + 1, Y, X, by omega, by omega, rfl, rfl, by go_num, hnext, B0⟩
        case measure => simp [intOf]; omega
    · have hje : j = k := by omega
      subst hje
      have hf := hid (cnt_all p L)
      rw [hn.out, hok.out] at hf
      replace hp := hid hp
      go_wp2
      go_ret2
      rw [← hf.out]
      exact ⟨rfl, hb⟩

set_option maxRecDepth 100000 in
set_option maxHeartbeats 2000000 in
theorem count55 (a : Option Addr) (k c g : Nat) (L : List Job) (ta : Option Addr) (tk tc : Nat) (T : List ByteArray) (w : World) (hn : L.length = k) (hl : k ≤ 4611686018427387904) (hat : JAt w a L) (hg : w.cell? ⟨g, 0, none⟩ = some (.slice ta tk tc)) (hT : T.length = tk) (hTl : tk ≤ 4611686018427387904) (hTat : TAt w ta T) :
    Calls Try.prog 54 #[.slice a k c, .func (.func 55) #[] #[ptr g]] w fun e w' => e = .returned (.tuple #[.int .i64 (cntP (fun s : Spc => hasB T s.acct) L).1, .int .i64 ((cntP (fun s : Spc => hasB T s.acct) L).2 : Int)]) ∧ Below w.heap.size w w' := by
  replace hn := hid hn
  replace hat := hid hat
  replace hg := hid hg
  replace hT := hid hT
  replace hTat := hid hTat
  generalize hp : (fun s : Spc => hasB T s.acct) = p
  go_enter Try.func54, Try.ntmps54
  go_wp2_with fail
  go_loopw [6, 7, 12] (fun x y i wr => ∃ (j Y : Nat) (X : Int), j ≤ k ∧ Y ≤ j ∧ x = .int .i64 X ∧ y = .int .i64 (Y : Int) ∧ i = .int .i64 (j : Int) ∧ Hid (cntP p (L.take j) = (X, Y)) ∧ Below w.heap.size w wr) (fun _ _ i _ => k - (intOf i).toNat)
  case atStart => exact ⟨0, 0, 0, Nat.zero_le _, Nat.le_refl _, rfl, rfl, rfl, hid rfl, Below.refl _ _⟩
  case round =>
    obtain ⟨j, Y, X, hj, hY, rfl, rfl, rfl, hok, hb⟩ := hrel
    by_cases hlt : j < k
    · have hjL : j < L.length := by rw [hn.out]; exact hlt
      obtain ⟨b, o, e⟩ := hat.out.place (by omega)
      subst e
      have hcj := hid ((hat.out.below hb).range hjL)
      have hnext := hid (cnt_next (p := p) hjL)
      rw [hok.out] at hnext
      generalize jobAt L j = J at *
      have bl := below_lit wr (.cells (jc J).toArray 53)
      have B0 := bnext hb bl
      have kS := is55 J.s g ta tk tc T _ (stay B0 hg.out) hT.out hTl (hTat.out.below B0)
      have hpJ : p J.s = hasB T J.s.acct := by rw [← hp]
      have kC := fun w => cores64 J.s w
      have c11 := lit_cell wr 53 (jc J).toArray 11 (.int .u8 J.st) rfl
      by_cases hst : J.st = 2
      · rw [hst] at c11
        have c3 := lit_cell wr 53 (jc J).toArray 3 (.string J.s.user) rfl
        have c4 := lit_cell wr 53 (jc J).toArray 4 (.string J.s.acct) rfl
        have c5 := lit_cell wr 53 (jc J).toArray 5 (.string J.s.qos) rfl
        have c6 := lit_cell wr 53 (jc J).toArray 6 (.string J.s.part) rfl
        have c7 := lit_cell wr 53 (jc J).toArray 7 (.int .i64 J.s.nodes) rfl
        have c8 := lit_cell wr 53 (jc J).toArray 8 (.int .i64 J.s.cores) rfl
        have c9 := lit_cell wr 53 (jc J).toArray 9 (.int .i64 J.s.lim) rfl
        have c10 := lit_cell wr 53 (jc J).toArray 10 (.slice J.s.da J.s.dn J.s.dc) rfl
        cases hB : p J.s
        · have hno := hid (cst_no (p := p) (x := (X, Y)) (j := J) (fun h => by rw [hB] at h; cases h.2))
          rw [hno.out] at hnext
          rw [hpJ] at hB
          rw [hB] at kS
          replace hB := hid hB
          replace hp := hid hp
          replace hpJ := hid hpJ
          replace hst := hid hst
          go_wp2_with (first
          | (refine wpList_load_mid rfl 53 (.tmp 14) rfl b (o + j * 17) rfl (jc J) _ hcj.out Try.underlying53 rfl (by kernel_rfl) ?_)
          | (refine wpList_store_row rfl 53 (.tmp 9) (.tmp 15) rfl wr.heap.size (jc J).toArray rfl rfl 53 _ (heap_alloc_new wr _) (by kernel_rfl) rfl (jc_all J) ?_; rw [alloc_setRow]))
          refine kS.mono ?_
          rintro e w1 ⟨rfl, hb1⟩
          have B1 := bnext B0 hb1
          go_wp2_with fail
          go_roundw
          case rel => exact ⟨j + 1, Y, X, by omega, by omega, rfl, rfl, by go_num, hnext, B1⟩
          case measure => simp [intOf]; omega
        · have hyes := hid (cst_yes (p := p) (x := (X, Y)) (j := J) hst hB)
          rw [hyes.out] at hnext
          rw [hpJ] at hB
          rw [hB] at kS
          replace hB := hid hB
          replace hp := hid hp
          replace hpJ := hid hpJ
          replace hst := hid hst
          generalize cor J.s = R at *
          go_wp2_with (first
          | (refine wpList_load_mid rfl 53 (.tmp 14) rfl b (o + j * 17) rfl (jc J) _ hcj.out Try.underlying53 rfl (by kernel_rfl) ?_)
          | (refine wpList_store_row rfl 53 (.tmp 9) (.tmp 15) rfl wr.heap.size (jc J).toArray rfl rfl 53 _ (heap_alloc_new wr _) (by kernel_rfl) rfl (jc_all J) ?_; rw [alloc_setRow]))
          refine kS.mono ?_
          rintro e w1 ⟨rfl, hb1⟩
          have B1 := bnext B0 hb1
          replace c3 := stay hb1 c3
          replace c4 := stay hb1 c4
          replace c5 := stay hb1 c5
          replace c6 := stay hb1 c6
          replace c7 := stay hb1 c7
          replace c8 := stay hb1 c8
          replace c9 := stay hb1 c9
          replace c10 := stay hb1 c10
          go_wp2_with fail
          refine (kC _).mono ?_
          rintro e w2 ⟨rfl, hb2⟩
          have B2 := bnext B1 hb2
          go_wp2_with fail
          go_roundw
          case rel => exact ⟨j + 1, Y + 1, _, by omega, by omega, rfl, by go_num, by go_num, hnext, B2⟩
          case measure => simp [intOf]; omega
      · have hno := hid (cst_no (p := p) (x := (X, Y)) (j := J) (fun h => hst h.1))
        rw [hno.out] at hnext
        replace hp := hid hp
        replace hpJ := hid hpJ
        go_wp2_with (first
          | (refine wpList_load_mid rfl 53 (.tmp 14) rfl b (o + j * 17) rfl (jc J) _ hcj.out Try.underlying53 rfl (by kernel_rfl) ?_)
          | (refine wpList_store_row rfl 53 (.tmp 9) (.tmp 15) rfl wr.heap.size (jc J).toArray rfl rfl 53 _ (heap_alloc_new wr _) (by kernel_rfl) rfl (jc_all J) ?_; rw [alloc_setRow]))
        go_roundw
        case rel => exact ⟨j + 1, Y, X, by omega, by omega, rfl, rfl, by go_num, hnext, B0⟩
        case measure => simp [intOf]; omega
    · have hje : j = k := by omega
      subst hje
      have hf := hid (cnt_all p L)
      rw [hn.out, hok.out] at hf
      replace hp := hid hp
      go_wp2
      go_ret2
      rw [← hf.out]
      exact ⟨rfl, hb⟩

theorem ofqual_any (a : Option Addr) (k c : Nat) (L : List Job) (n : ByteArray) (w : World) (hn : L.length = k) (hl : k ≤ 4611686018427387904) (hat : JAt w a L) :
    Calls Try.prog 34 #[.slice a k c, .string n] w fun e w' => e = .returned (.tuple #[.int .i64 (cntP (fun s : Spc => decide (s.qos = n)) L).1, .int .i64 ((cntP (fun s : Spc => decide (s.qos = n)) L).2 : Int)]) ∧ Below w.heap.size w w' := by
  have bl := below_lit w (.cells #[.string n] 9)
  have hc : (w.alloc (.cells #[.string n] 9)).cell? ⟨w.heap.size, 0, none⟩ = some (.string n) := cell_new _ _ _
  have kF := count59 a k c w.heap.size L n _ hn hl (hat.below bl) hc
  generalize cntP (fun s : Spc => decide (s.qos = n)) L = r at *
  obtain ⟨X, Y⟩ := r
  dsimp only at *
  replace hn := hid hn
  replace hat := hid hat
  replace hc := hid hc
  go_enter Try.func34, Try.ntmps34
  go_wp2_with fail
  refine kF.mono ?_
  rintro e w1 ⟨rfl, hb1⟩
  have B1 := bnext bl hb1
  go_wp2
  go_ret2
  exact ⟨rfl, B1⟩

/-- The jobs that count for an account: whose account lies below it. -/
def onP (A : List Acc) (n : ByteArray) : Spc → Bool := fun s => hasB (belowP A n) s.acct
/-- The jobs that count for a quality. -/
def inP (n : ByteArray) : Spc → Bool := fun s => decide (s.qos = n)

set_option maxRecDepth 100000 in
theorem ofacc_any (aa : Option Addr) (ak ac : Nat) (A : List Acc) (a : Option Addr) (k c : Nat) (L : List Job) (n : ByteArray) (w : World) (hA : A.length = ak) (hac : ak ≤ ac) (hatA : AAt w aa A) (he : errP A n = 0) (hn : L.length = k) (hl : k ≤ 4611686018427387904) (hat : JAt w a L) :
    Calls Try.prog 29 #[.slice aa ak ac, .slice a k c, .string n] w fun e w' => e = .returned (.int .i64 (cntP (onP A n) L).1) ∧ Below w.heap.size w w' := by
  have hl16 : ak ≤ 16 := by rw [← hA]; exact (right_is.1 (err_ok he).1).2.1
  have k1 := below_ok aa ak ac A n w hA (by omega) hac hatA he
  have hbl : (belowP A n).length ≤ 16 := by
    have := belTo_len A n A.length
    rw [belTo_all] at this
    omega
  have kF := fun w2 (h : Below w.heap.size w w2) (g : Nat) (ta : Option Addr) (tk tc : Nat) (hg : w2.cell? ⟨g, 0, none⟩ = some (.slice ta tk tc)) (hT : (belowP A n).length = tk) (hTat : TAt w2 ta (belowP A n)) => count55 a k c g L ta tk tc (belowP A n) w2 hn hl (hat.below h) hg hT (by omega) hTat
  rw [show (fun s : Spc => hasB (belowP A n) s.acct) = onP A n from rfl] at kF
  generalize cntP (onP A n) L = r at *
  obtain ⟨X, Y⟩ := r
  dsimp only at *
  replace hA := hid hA
  replace hatA := hid hatA
  replace hn := hid hn
  replace hat := hid hat
  replace he := hid he
  go_enter Try.func29, Try.ntmps29
  go_wp2_with fail
  refine k1.mono ?_
  rintro e w1 ⟨va, vc, rfl, hvc, ho, hb1⟩
  have bl := below_lit w1 (.cells #[.slice va (belowP A n).length vc] 70)
  have hc : (w1.alloc (.cells #[.slice va (belowP A n).length vc] 70)).cell? ⟨w1.heap.size, 0, none⟩ = some (.slice va (belowP A n).length vc) := cell_new _ _ _
  have kC := kF _ (bnext hb1 bl) w1.heap.size va _ vc hc rfl (ho.tat.below bl)
  have B1 := bnext hb1 bl
  replace ho := hid ho
  replace kF := hid kF
  generalize (belowP A n).length = tk at *
  go_wp2_with fail
  refine kC.mono ?_
  rintro e w2 ⟨rfl, hb2⟩
  have B2 := bnext B1 hb2
  go_wp2
  go_ret
  exact ⟨rfl, B2⟩

end Go.Proofs.Ytpebhjncdfcmnaa
