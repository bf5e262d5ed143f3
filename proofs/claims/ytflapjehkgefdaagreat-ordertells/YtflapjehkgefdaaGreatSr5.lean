/- symMergeCmpFunc of places: its great way, and whole. -/
import Derived.Test.YtflapjehkgefdaaGreatSr4
import Derived.Deep.DeepCutAuto
namespace Go.Proofs.YtflapjehkgefdaaGreat
open Go.Shelf Go.RowKit Go.Lib Go.Sort
set_option linter.unusedVariables false
variable {w0 W : World} {blk off : Nat} {d0 dk : Array Plc}

/-- What merging tells. -/
def SymTold (cf : Plc → Plc → Int) (w0 : World) (blk off a b : Nat) (d : Array Plc) (e : Ending) (w' : World) : Prop :=
  e = .returned (.tuple #[]) ∧ ∃ d', (PermIn a b d d' ∧ SortedIn (ltOf cf) a b d') ∧ SWK plc 2 w0 blk off d' w'
def SymCall (cap k a m b : Nat) (cf : Plc → Plc → Int) (w0 : World) (blk off : Nat) (d : Array Plc) (w : World) : Prop :=
  Calls Tryz.prog 78 #[.slice (some ⟨blk, off, none⟩) k cap, .int .i64 a, .int .i64 m, .int .i64 b, .func (.func 29) #[] #[]] w (SymTold cf w0 blk off a b d)

/-- The bounds of the search. -/
structure LH (a m b mid lo hi : Nat) : Prop where
  l1 : a ≤ lo
  l2 : lo ≤ hi
  l3 : hi ≤ m
  l4 : hi ≤ mid
  l5 : mid + m ≤ lo + b
  l6 : lo = a ∨ mid + m = lo + b
  l7 : hi = m ∨ hi = mid

def headIs (n : Nat) : Code → Bool
  | .region id _ _ => id == n
  | .seq a _ => headIs n a
  | .block _ c => headIs n c
  | .loop c => headIs n c
  | _ => false
/-- What is left from the region n on. -/
def restOf (n : Nat) : Code → Option Code
  | .seq a b => if headIs n a then some (.seq a b) else restOf n b
  | c => if headIs n c then some c else none

set_option maxHeartbeats 1000000 in
set_option maxRecDepth 100000 in
theorem sym3_tail (cap a m b k mid lo hi j p : Nat) (d : Array Plc) (cf : Plc → Plc → Int) (hO : SWO (ltOf cf)) (wr : World) (R : RowK plc 2 w0 blk off d0) (HS : Hid (d.size = d0.size)) (HK : Hid (d.size = k)) (S1 : Hid (SWK plc 2 w0 blk off d wr))
    (ham : a + 1 < m) (hmb : m + 1 < b) (hb : b ≤ k) (hsz : k < 2305843009213693952) (h1 : SortedIn (ltOf cf) a m d) (h2 : SortedIn (ltOf cf) m b d)
    (IH : Hid (∀ (a' m' b' : Nat) (d' : Array Plc) (w' : World), b' - a' < b - a → a' < m' → m' < b' → b' ≤ k → d'.size = d0.size → SWK plc 2 w0 blk off d' w' → SortedIn (ltOf cf) a' m' d' → SortedIn (ltOf cf) m' b' d' → SymCall cap k a' m' b' cf w0 blk off d' w'))
    (hm1 : a < mid) (hm2 : mid < b) (hab1 : mid + mid ≤ a + b) (hab2 : a + b ≤ mid + mid + 1) (HL : Hid (LH a m b mid lo hi)) (hp : p + 1 = mid + m) (L : Hid (Mid (ltOf cf) d p lo hi j j)) (c5 c6 c7 c8 c9 c10 c11 c12 c13 c14 c15 c16 c17 c21 c22 c23 c24 c25 c26 c27 c28 c29 c30 c31 c32 c33 c34 c35 c36 c37 c38 c39 c40 c41 c42 c43 c44 c45 c46 c47 c48 c49 c50 c51 c52 c53 c54 c55 c56 c57 c58 c59 c60 c61 c62 c63 c64 c65 c66 c67 c68 c69 c70 c71 c72 c73 c74 c75 c76 c77 c78 c79 c80 c81 c82 c83 c84 c85 c86 c87 c88 c89 c90 c91 c92 c93 c94 c95 c96 c97 c98 c99 c100 c101 c102 c103 c104 c105 c106 c107 c108 c109 c110 c111 c112 c113 c114 c115 c116 c117 c118 c119 c120 c121 c122 c123 c124 c125 c126 c127 c128 c129 c130 c131 c132 c133 c134 c135 c136 c137 c138 c139 c140 c141 c142 c143 c144 c145 c146 c147 c148 c149 c150 c151 c152 c153 c154 c155 c156 c157 c158 c159 c160 c161 c162 c163 c164 c165 c166 c167 c168 c169 c170 c171 c172 c173 c174 c175 c176 c177 c178 c179 c180 c181 c182 c183 c184 c185 c186 c187 c188 c189 c190 c191 c192 c193 c194 c195 c196 c197 c198 c199 c200 c201 c202 c203 c204 c205 c206 c207 c208 c209 c210 c211 c212 c213 c214 c215 c216 c217 c218 c219 : Value) :
    Code.wp Tryz.prog ((Tryz.f78.body.bind (restOf 38)).getD .skip) (bodyPost Tryz.prog Tryz.f78 (SymTold cf w0 blk off a b d)) ⟨#[(.slice (some ⟨blk, off, none⟩) k cap), (.int .i64 a), (.int .i64 m), (.int .i64 b), (.func (.func 29) #[] #[]), c5, c6, c7, c8, c9, c10, c11, c12, c13, c14, c15, c16, c17, (.int .i64 mid), (.int .i64 ((mid : Int) + m)), (.int .i64 j), c21, c22, c23, c24, c25, c26, c27, c28, c29, c30, c31, c32, c33, c34, c35, c36, c37, c38, c39, c40, c41, c42, c43, c44, c45, c46, c47, c48, c49, c50, c51, c52, c53, c54, c55, c56, c57, c58, c59, c60, c61, c62, c63, c64, c65, c66, c67, c68, c69, c70, c71, c72, c73, c74, c75, c76, c77, c78, c79, c80, c81, c82, c83, c84, c85, c86, c87, c88, c89, c90, c91, c92, c93, c94, c95, c96, c97, c98, c99, c100, c101, c102, c103, c104, c105, c106, c107, c108, c109, c110, c111, c112, c113, c114, c115, c116, c117, c118, c119, c120, c121, c122, c123, c124, c125, c126, c127, c128, c129, c130, c131, c132, c133, c134, c135, c136, c137, c138, c139, c140, c141, c142, c143, c144, c145, c146, c147, c148, c149, c150, c151, c152, c153, c154, c155, c156, c157, c158, c159, c160, c161, c162, c163, c164, c165, c166, c167, c168, c169, c170, c171, c172, c173, c174, c175, c176, c177, c178, c179, c180, c181, c182, c183, c184, c185, c186, c187, c188, c189, c190, c191, c192, c193, c194, c195, c196, c197, c198, c199, c200, c201, c202, c203, c204, c205, c206, c207, c208, c209, c210, c211, c212, c213, c214, c215, c216, c217, c218, c219], []⟩ wr := by
  conv => arg 2; whnf
  have mx := mixed1
  have hl := L.out.l
  have hr := L.out.r
  have g1 := HL.out.l1
  have g3 := HL.out.l3
  have g4 := HL.out.l4
  have g5 := HL.out.l5
  have g6 := HL.out.l6
  have g7 := HL.out.l7
  have g2 := HL.out.l2
  obtain ⟨e, he⟩ : ∃ e, e + j = mid + m := ⟨mid + m - j, by omega⟩
  have hez : (mid : Int) + m - j = (e : Int) := by omega
  have re : IntKind.i64.wrap ((mid : Int) + m - j) = (mid : Int) + m - j := by rw [IntKind.wrap_i64]; omega
  have hhalf : Hid (∀ d1, Rot d j m e d1 → Half (ltOf cf) d d1 a j mid e b) := hid fun d1 hr1 => by
    have e1 : e = mid + m - j := by omega
    rw [e1] at hr1 ⊢
    refine half hO (by omega) (by omega) (by have := HK.out; omega) ⟨hm1, hm2⟩ h1 h2 (by omega) (by omega) (by omega) (by omega) (fun t q1 q2 q3 => ?_) (fun t q1 q2 q3 => ?_) hr1
    · have := L.out.stay t (by omega) q2
      rwa [show mid + m - 1 = p by omega]
    · have := L.out.go t q1 (by omega)
      rwa [show mid + m - 1 = p by omega]
  go_upto_region 39 with fail
  go_cut [185] (fun s wx => ∃ bb : Bool, s = .bool bb ∧ Hid (bb = (decide (j < m) && decide (m < e))) ∧ wx = wr)
  case first =>
    by_cases q1 : j < m
    · have d1 : (j : Int) < (m : Int) := by omega
      have d1' : decide ((j : Int) < (m : Int)) = true := decide_eq_true d1
      by_cases q2 : m < e
      · have d2 : (m : Int) < (e : Int) := by omega
        have d2' : decide ((m : Int) < (e : Int)) = true := decide_eq_true d2
        have hb' : Hid (true = (decide (j < m) && decide (m < e))) := hid (by simp [q1, q2])
        go_wp2_with fail
        go_meet
        exact ⟨true, rfl, hb', rfl⟩
      · have d2 : ¬ (m : Int) < (e : Int) := by omega
        have d2' : decide ((m : Int) < (e : Int)) = false := decide_eq_false d2
        have hb' : Hid (false = (decide (j < m) && decide (m < e))) := hid (by simp [q1, q2])
        go_wp2_with fail
        go_meet
        exact ⟨false, rfl, hb', rfl⟩
    · have d1 : ¬ (j : Int) < (m : Int) := by omega
      have d1' : decide ((j : Int) < (m : Int)) = false := decide_eq_false d1
      have hb' : Hid (false = (decide (j < m) && decide (m < e))) := hid (by simp [q1])
      go_wp2_with fail
      go_meet
      exact ⟨false, rfl, hb', rfl⟩
  case rest =>
  obtain ⟨bb, rfl, hbb, hwx⟩ := hcut
  subst hwx
  go_upto_if 185 with fail
  go_cut [24] (fun s24 wx => s24 = .int .i64 e ∧ ∃ d1, Hid (Rot d j m e d1) ∧ Hid (SWK plc 2 w0 blk off d1 wx))
  case first =>
    cases bb with
    | true =>
      have hbo := hbb.out.symm
      rw [Bool.and_eq_true, decide_eq_true_eq, decide_eq_true_eq] at hbo
      have hrot := rot_any cap j m e d wc (.func (.func 29) #[] #[]) R HS.out S1.out hbo.1 hbo.2 (by have := HK.out; omega) (by have := HK.out; omega)
      rw [HK.out] at hrot
      replace hbo := hid hbo
      go_wp2_with fail
      refine hrot.mono ?_
      rintro e' w' ⟨rfl, d1, hr1, S2⟩
      replace S2 := hid S2
      replace hr1 := hid hr1
      go_wp2_with fail
      go_meet
      exact ⟨rfl, d1, hr1, S2⟩
    | false =>
      have hbo := hbb.out.symm
      rw [Bool.and_eq_false_iff, decide_eq_false_iff_not, decide_eq_false_iff_not] at hbo
      have hr1 : Hid (Rot d j m e d) := hid (by
        rcases hbo with q | q
        · rw [show m = j by omega]; exact Rot.none (by omega)
        · rw [show e = m by omega]; exact Rot.none' (by omega))
      replace hbo := hid hbo
      go_wp2_with fail
      go_meet
      exact ⟨rfl, d, hr1, S1⟩
  case rest =>
    clear S1 hbb
    obtain ⟨rfl, d1, hr1, S1⟩ := hcut
    have HF := hid (hhalf.out d1 hr1.out)
    clear hhalf hr1
    go_upto_region 41 with fail
    generalize wc = wd at S1 ⊢
    go_cut [199] (fun s wx => ∃ bb : Bool, s = .bool bb ∧ Hid (bb = (decide (a < j) && decide (j < mid))) ∧ wx = wd)
    case first =>
      by_cases q1 : a < j
      · have d1 : (a : Int) < (j : Int) := by omega
        have d1' : decide ((a : Int) < (j : Int)) = true := decide_eq_true d1
        by_cases q2 : j < mid
        · have d2 : (j : Int) < (mid : Int) := by omega
          have d2' : decide ((j : Int) < (mid : Int)) = true := decide_eq_true d2
          have hb' : Hid (true = (decide (a < j) && decide (j < mid))) := hid (by simp [q1, q2])
          go_wp2_with fail
          go_meet
          exact ⟨true, rfl, hb', rfl⟩
        · have d2 : ¬ (j : Int) < (mid : Int) := by omega
          have d2' : decide ((j : Int) < (mid : Int)) = false := decide_eq_false d2
          have hb' : Hid (false = (decide (a < j) && decide (j < mid))) := hid (by simp [q1, q2])
          go_wp2_with fail
          go_meet
          exact ⟨false, rfl, hb', rfl⟩
      · have d1 : ¬ (a : Int) < (j : Int) := by omega
        have d1' : decide ((a : Int) < (j : Int)) = false := decide_eq_false d1
        have hb' : Hid (false = (decide (a < j) && decide (j < mid))) := hid (by simp [q1])
        go_wp2_with fail
        go_meet
        exact ⟨false, rfl, hb', rfl⟩
    case rest =>
    obtain ⟨bb, rfl, hbb, hwx⟩ := hcut
    subst hwx
    go_upto_if 199 with fail
    go_cut [24] (fun s24 wx => s24 = .int .i64 e ∧ ∃ d2, Hid (PermIn a mid d1 d2 ∧ SortedIn (ltOf cf) a mid d2) ∧ Hid (SWK plc 2 w0 blk off d2 wx))
    case first =>
      cases bb with
      | true =>
        have hbo := hbb.out.symm
        rw [Bool.and_eq_true, decide_eq_true_eq, decide_eq_true_eq] at hbo
        have hcall := IH.out a j mid d1 wc (by omega) hbo.1 hbo.2 (by omega) (HF.out.size.trans HS.out) S1.out HF.out.s1 HF.out.s2
        unfold SymCall at hcall
        replace hbo := hid hbo
        go_wp2_with fail
        refine hcall.mono ?_
        rintro e' w' ⟨rfl, d2, hp2, S2⟩
        replace S2 := hid S2
        replace hp2 := hid hp2
        go_wp2_with fail
        go_meet
        exact ⟨rfl, d2, hp2, S2⟩
      | false =>
        have hbo := hbb.out.symm
        rw [Bool.and_eq_false_iff, decide_eq_false_iff_not, decide_eq_false_iff_not] at hbo
        have hp2 : Hid (PermIn a mid d1 d1 ∧ SortedIn (ltOf cf) a mid d1) := hid (by
          refine ⟨permIn_refl _ _ _, ?_⟩
          rcases hbo with q | q
          · rw [show a = j by omega]; exact HF.out.s2
          · rw [show mid = j by omega]; exact HF.out.s1)
        replace hbo := hid hbo
        go_wp2_with fail
        go_meet
        exact ⟨rfl, d1, hp2, S1⟩
    case rest =>
      clear S1 hbb
      obtain ⟨rfl, d2, hp2, S2⟩ := hcut
      have hs4 : Hid (SortedIn (ltOf cf) mid e d2 ∧ SortedIn (ltOf cf) e b d2) := hid ⟨sorted_aside hp2.out.1 HF.out.s3 (Or.inr (Nat.le_refl _)), sorted_aside hp2.out.1 HF.out.s4 (Or.inr (by omega))⟩
      have hsz2 : Hid (d2.size = d0.size) := hid (hp2.out.1.1.trans (HF.out.size.trans HS.out))
      have hend : Hid (∀ d3, PermIn mid b d2 d3 → SortedIn (ltOf cf) mid b d3 → PermIn a b d d3 ∧ SortedIn (ltOf cf) a b d3) := hid fun d3 p3 s3 => half_end ⟨hm1, hm2⟩ (by have := HK.out; omega) HF.out hp2.out.1 hp2.out.2 p3 s3
      by_cases q1 : mid < e
      · have d1z : (mid : Int) < (e : Int) := by omega
        have d1' : decide ((mid : Int) < (e : Int)) = true := decide_eq_true d1z
        by_cases q2 : e < b
        · have d2z : (e : Int) < (b : Int) := by omega
          have d2' : decide ((e : Int) < (b : Int)) = true := decide_eq_true d2z
          have hcall := IH.out mid e b d2 wc (by omega) q1 q2 hb hsz2.out S2.out hs4.out.1 hs4.out.2
          unfold SymCall at hcall
          go_wp2_with fail
          refine hcall.mono ?_
          rintro e' w' ⟨rfl, d3, hp3, S3⟩
          go_wp2
          go_end0
          exact ⟨rfl, d3, hend.out d3 hp3.1 hp3.2, S3⟩
        · have d2z : ¬ (e : Int) < (b : Int) := by omega
          have d2' : decide ((e : Int) < (b : Int)) = false := decide_eq_false d2z
          have hs5 : SortedIn (ltOf cf) mid b d2 := by rw [show b = e by omega]; exact hs4.out.1
          have hfin := hid (hend.out d2 (permIn_refl _ _ _) hs5)
          clear hs5
          go_wp2
          go_end0
          exact ⟨rfl, d2, hfin.out, S2.out⟩
      · have d1z : ¬ (mid : Int) < (e : Int) := by omega
        have d1' : decide ((mid : Int) < (e : Int)) = false := decide_eq_false d1z
        have hs5 : SortedIn (ltOf cf) mid b d2 := by rw [show mid = e by omega]; exact hs4.out.2
        have hfin := hid (hend.out d2 (permIn_refl _ _ _) hs5)
        clear hs5
        go_wp2
        go_end0
        exact ⟨rfl, d2, hfin.out, S2.out⟩


set_option maxHeartbeats 1000000 in
set_option maxRecDepth 100000 in
theorem sym3 (cap a m b k : Nat) (d : Array Plc) (cf : Plc → Plc → Int) (hO : SWO (ltOf cf)) (w : World) (hC : CmpLays Tryz.prog 29 #[] plc 2 cf blk off k w0) (R : RowK plc 2 w0 blk off d0) (hs : d.size = d0.size) (hk : d.size = k) (S : SWK plc 2 w0 blk off d w)
    (ham : a + 1 < m) (hmb : m + 1 < b) (hb : b ≤ k) (hsz : k < 2305843009213693952) (h1 : SortedIn (ltOf cf) a m d) (h2 : SortedIn (ltOf cf) m b d)
    (ih : ∀ (a' m' b' : Nat) (d' : Array Plc) (w' : World), b' - a' < b - a → a' < m' → m' < b' → b' ≤ k → d'.size = d0.size → SWK plc 2 w0 blk off d' w' → SortedIn (ltOf cf) a' m' d' → SortedIn (ltOf cf) m' b' d' → SymCall cap k a' m' b' cf w0 blk off d' w') :
    SymCall cap k a m b cf w0 blk off d w := by
  unfold SymCall
  have S0 := hid S
  have HS := hid hs
  have HK := hid hk
  have HC := hid hC
  have IH := hid ih
  have t0 : ((m : Int) - a == 1) = false := by rw [beq_eq_false_iff_ne]; omega
  have t1 : ((b : Int) - m == 1) = false := by rw [beq_eq_false_iff_ne]; omega
  have r0 : IntKind.i64.wrap ((m : Int) - a) = (m : Int) - a := by rw [IntKind.wrap_i64]; omega
  have r1 : IntKind.i64.wrap ((b : Int) - m) = (b : Int) - m := by rw [IntKind.wrap_i64]; omega
  have mx := mixed1
  clear S hs hk hC ih
  obtain ⟨mid, hmid⟩ : ∃ mid, mid = (a + b) / 2 := ⟨_, rfl⟩
  have hmz : ((a : Int) + b) / 2 = (mid : Int) := by omega
  have hm1 : a < mid := by omega
  have hm2 : mid < b := by omega
  have hab1 : mid + mid ≤ a + b := by omega
  have hab2 : a + b ≤ mid + mid + 1 := by omega
  replace hmid := hid hmid
  go_enter Tryz.func78, Tryz.ntmps78
  go_upto_if 140 with fail
  clear t0 t1 r0 r1
  go_cut [20, 21] (fun s20 s21 wx => ∃ lo hi : Nat, s20 = .int .i64 lo ∧ s21 = .int .i64 hi ∧ Hid (LH a m b mid lo hi) ∧ wx = w)
  case first =>
    by_cases hg : mid < m
    · have d1 : (mid : Int) < (m : Int) := by omega
      have hst : (mid : Int) + m - b = ((mid + m - b : Nat) : Int) := by omega
      have r2 : IntKind.i64.wrap ((mid : Int) + m - b) = (mid : Int) + m - b := by rw [IntKind.wrap_i64]; omega
      have HL : LH a m b mid (mid + m - b) mid := ⟨by omega, by omega, by omega, Nat.le_refl _, by omega, Or.inr (by omega), Or.inr rfl⟩
      replace HL := hid HL
      generalize mid + m - b = lo at hst HL
      go_wp2_with fail
      go_meet
      exact ⟨lo, mid, rfl, rfl, HL, rfl⟩
    · have d1 : ¬ (mid : Int) < (m : Int) := by omega
      have HL : LH a m b mid a m := ⟨Nat.le_refl _, by omega, Nat.le_refl _, by omega, by omega, Or.inl rfl, Or.inl rfl⟩
      replace HL := hid HL
      go_wp2_with fail
      go_meet
      exact ⟨a, m, rfl, rfl, HL, rfl⟩
  case rest =>
    obtain ⟨lo, hi, rfl, rfl, HL, hwx⟩ := hcut
    subst hwx
    obtain ⟨p, hp⟩ : ∃ p, p + 1 = mid + m := ⟨mid + m - 1, by omega⟩
    have hpz : (mid : Int) + m - 1 = (p : Int) := by omega
    have hL0 := hid (Mid.start (lt := ltOf cf) (d := d) (p := p) HL.out.l2)
    go_wp2_with fail
    rename_i KK hKK
    replace hKK := hid hKK
    go_loopg [20, 21, 23] (hi - lo) (fun kx s10 s11 s12 wr => ∃ (i j : Nat), s10 = .int .i64 i ∧ s11 = .int .i64 j ∧ j - i ≤ kx ∧ Hid (Mid (ltOf cf) d p lo hi i j) ∧ Hid (SWK plc 2 w0 blk off d wr))
    case atStart => exact ⟨lo, hi, rfl, rfl, Nat.le_refl _, hL0, S0⟩
    case round =>
      clear S0 hL0
      obtain ⟨i, j, rfl, rfl, hkx, L, S1⟩ := hrel
      have hl := L.out.l
      have hm2' := L.out.m
      have hr := L.out.r
      have g1 := HL.out.l1
      have g3 := HL.out.l3
      have g4 := HL.out.l4
      have g5 := HL.out.l5
      by_cases hlt : i < j
      · have hltz : (i : Int) < (j : Int) := by omega
        go_wp2_with fail
        have hcz : ((i : Int) + j) / 2 = (((i + j) / 2 : Nat) : Int) := by omega
        have hcl : i ≤ (i + j) / 2 ∧ (i + j) / 2 < j := by omega
        rw [hcz]
        clear hcz
        generalize (i + j) / 2 = c at hcl ⊢
        have hpc : c ≤ p := by omega
        have hpc2 : p - c < b := by omega
        obtain ⟨x, hx⟩ : ∃ x, x = d[p - c]! := ⟨_, rfl⟩
        obtain ⟨y, hy⟩ : ∃ y, y = d[c]! := ⟨_, rfl⟩
        have hsz2 : d.size = k := HK.out
        obtain ⟨l1, l2⟩ := pcs_of S1.out R HS.out (p - c) (by omega) hx.symm
        obtain ⟨l3, l4⟩ := pcs_of S1.out R HS.out c (by omega) hy.symm
        have hcg := pcmp S1.out HC.out HK.out x y
        have ea : ((c : Int)).toNat = c := by omega
        have eb : ((p : Int) - c).toNat = p - c := by omega
        have ba : (c : Int) < (k : Int) := by omega
        have bb : (p : Int) - c < (k : Int) := by omega
        have pa : (0 : Int) ≤ (c : Int) := by omega
        have pb : (0 : Int) ≤ (p : Int) - c := by omega
        have rb : IntKind.i64.wrap ((p : Int) - c) = (p : Int) - c := by rw [IntKind.wrap_i64]; omega
        replace hx := hid hx
        replace hy := hid hy
        replace hsz2 := hid hsz2
        by_cases hlv : cf x y < 0
        · have hL : Hid _ := hid (Mid.yes hO L.out h1 h2 g1 g3 (by omega) (by omega) hcl.1 hcl.2 (by rw [← hx.out, ← hy.out]; exact decide_eq_true hlv))
          go_quiet_grown (first | (go_at_call 29; refine Calls.grown_of (hcg _ _)))
          have S2 := hid (S1.out.grown nq osq)
          clear l1 l2 l3 l4 hcg S1
          generalize grow (wr.drewN nq) osq = w2 at S2 ⊢
          go_wp2
          go_roundg (c - i)
          case measure => omega
          case rel => exact ⟨i, c, rfl, rfl, Nat.le_refl _, hL, S2⟩
        · have hL : Hid _ := hid (Mid.no hO L.out h1 h2 g1 g3 (by omega) (by omega) hcl.1 hcl.2 (by rw [← hx.out, ← hy.out]; exact decide_eq_false hlv))
          have hlf : decide (cf x y < 0) = false := decide_eq_false hlv
          go_quiet_grown (first | (go_at_call 29; refine Calls.grown_of (hcg _ _)))
          have S2 := hid (S1.out.grown nq osq)
          clear l1 l2 l3 l4 hcg S1
          generalize grow (wr.drewN nq) osq = w2 at S2 ⊢
          go_wp2
          go_roundg (j - (c + 1))
          case measure => omega
          case rel => exact ⟨c + 1, j, by simp, rfl, Nat.le_refl _, hL, S2⟩
      · have hij : j = i := by omega
        subst hij
        have hltz : ¬ (j : Int) < (j : Int) := by omega
        go_wp2_with fail
        refine hKK.out _ _ ?_
        exact sym3_tail cap a m b k mid lo hi j p d cf hO wr R HS HK S1 ham hmb hb hsz h1 h2 IH hm1 hm2 hab1 hab2 HL hp L _ _ _ _ _ _ _ _ _ _ _ _ _ _ _ _ _ _ _ _ _ _ _ _ _ _ _ _ _ _ _ _ _ _ _ _ _ _ _ _ _ _ _ _ _ _ _ _ _ _ _ _ _ _ _ _ _ _ _ _ _ _ _ _ _ _ _ _ _ _ _ _ _ _ _ _ _ _ _ _ _ _ _ _ _ _ _ _ _ _ _ _ _ _ _ _ _ _ _ _ _ _ _ _ _ _ _ _ _ _ _ _ _ _ _ _ _ _ _ _ _ _ _ _ _ _ _ _ _ _ _ _ _ _ _ _ _ _ _ _ _ _ _ _ _ _ _ _ _ _ _ _ _ _ _ _ _ _ _ _ _ _ _ _ _ _ _ _ _ _ _ _ _ _ _ _ _ _ _ _ _ _ _ _ _ _ _ _ _ _ _ _ _ _ _ _ _ _ _ _ _ _ _ _ _ _ _ _ _ _ _ _

theorem sym_any (cap k : Nat) (cf : Plc → Plc → Int) (hO : SWO (ltOf cf)) (hC : CmpLays Tryz.prog 29 #[] plc 2 cf blk off k w0) (R : RowK plc 2 w0 blk off d0) (hk : d0.size = k) (hsz : k < 2305843009213693952) :
    ∀ (N a m b : Nat) (d : Array Plc) (w : World), b - a ≤ N → a < m → m < b → b ≤ k → d.size = d0.size → SWK plc 2 w0 blk off d w → SortedIn (ltOf cf) a m d → SortedIn (ltOf cf) m b d → SymCall cap k a m b cf w0 blk off d w := by
  intro N
  induction N with
  | zero => intro a m b d w h1 h2 h3; omega
  | succ N ih =>
    intro a m b d w h1 h2 h3 h4 h5 h6 h7 h8
    by_cases e1 : m = a + 1
    · exact sym1 cap a m b k d cf hO w hC R h5 (h5.trans hk) h6 e1 h3 h4 (by omega) h8
    · by_cases e2 : b = m + 1
      · exact sym2 cap a m b k d cf hO w hC R h5 (h5.trans hk) h6 (by omega) e2 h4 (by omega) h7
      · exact sym3 cap a m b k d cf hO w hC R h5 (h5.trans hk) h6 (by omega) (by omega) h4 hsz h7 h8 fun a' m' b' d' w' g0 g1 g2 g3 g4 g5 g6 g7 => ih a' m' b' d' w' (by omega) g1 g2 g3 g4 g5 g6 g7
end Go.Proofs.YtflapjehkgefdaaGreat
