/- JournalKept: what Open makes of good files. -/
import Derived.Test.YtcbgnodmamcmkaaKeptP3
import Derived.Test.YtcbgnodmamcmkaaOpenDn
namespace Go.Proofs.Ytcbgnodmamcmkaa
open Go.RowKit

theorem place_num : ∀ (rs : List KB) (N : Nat) (pre z : List UInt8), (∀ r ∈ rs, r.2.length ≤ 65536) → N + rs.length ≤ 4611686018427387905 → ∀ i (h : i < (logP pre.length rs).length), numAt (pre ++ (logB N rs ++ z)) (logP pre.length rs)[i] = N + i
  | [], N, pre, z, _, _, i, h => by simp [logP] at h
  | r :: rs, N, pre, z, hb, hm, i, h => by
    have hr := hb r (by simp)
    simp only [List.length_cons] at hm
    have hH : Holds (pre ++ (logB N (r :: rs) ++ z)) pre.length N r.1 r.2 := ⟨pre, logB (N + 1) rs ++ z, by simp [logB, List.append_assoc], rfl⟩
    cases i with
    | zero => simp only [logP, List.getElem_cons_zero, Nat.add_zero]; exact hH.num (by omega)
    | succ i =>
      have he : pre ++ (logB N (r :: rs) ++ z) = (pre ++ entB N r.1 r.2) ++ (logB (N + 1) rs ++ z) := by simp [logB, List.append_assoc]
      have hl : (pre ++ entB N r.1 r.2).length = pre.length + 17 + r.2.length := by rw [List.length_append, entB_len]; omega
      have ih := place_num rs (N + 1) (pre ++ entB N r.1 r.2) z (fun q hq => hb q (by simp [hq])) (by omega) i (by rw [hl]; simpa [logP] using h)
      simp only [hl] at ih
      simp only [logP, List.getElem_cons_succ]
      rw [he, ih]
      omega

theorem logB_ge : ∀ (rs : List KB) (N : Nat), rs.length ≤ (logB N rs).length
  | [], N => by simp [logB]
  | r :: rs, N => by
    have := logB_ge rs (N + 1)
    simp only [logB, List.length_append, entB_len, List.length_cons]
    omega

theorem plainL_drop : ∀ (rs : List KB) (N k : Nat), (plainL N rs).drop k = plainL (N + k) (rs.drop k)
  | rs, N, 0 => by simp
  | [], N, k + 1 => by simp [plainL]
  | r :: rs, N, k + 1 => by
    simp only [plainL, List.drop_succ_cons]
    rw [plainL_drop rs (N + 1) k, show N + 1 + k = N + (k + 1) by omega]

theorem seg_drop {all : List KB} {a q m : Nat} (h1 : a ≤ q) : (seg all a m).drop (q - a) = seg all q m := by
  unfold seg
  rw [List.drop_take, List.drop_drop]
  rw [show a + (q - a) = q by omega, show m - a - (q - a) = m - q by omega]

theorem errs_free {d : Dsk} (h1 : d.down = false) (h2 : d.arm = -1) (h3 : d.fail = -1) : d.errs = 0 := by
  unfold Dsk.errs
  rw [h1, h2, h3]
  rfl

def Free (d : Dsk) : Prop := d.down = false ∧ d.arm = -1 ∧ d.fail = -1

theorem Free.went {d : Dsk} (h : Free d) : Free d.went := by
  unfold Dsk.went
  rw [h.1, if_neg (by simp)]
  exact ⟨by simp [h.2.1], by simp [h.2.1, less], by simp [h.2.2, less]⟩

theorem cut_eq {d : Dsk} {sz : Nat} (hsz : sz ≤ (d.cur 0).length) : d.cutE (0 : Nat) sz = d.errs ∧ d.cutD (0 : Nat) sz = if d.errs ≠ 0 then d.went else d.went.note ⟨0, false, [], sz⟩ := by
  have h1 : ¬ ((sz : Int) < 0 ∨ ((d.cur ((0 : Nat) : Int).toNat).length : Int) < (sz : Int)) := by
    have : ((0 : Nat) : Int).toNat = 0 := rfl
    rw [this]
    omega
  refine ⟨?_, ?_⟩
  · unfold Dsk.cutE; rw [if_neg (not_bad (by omega)), if_neg h1]
  · unfold Dsk.cutD; rw [if_neg (not_bad (by omega)), if_neg h1]; rfl

theorem csD_few (d : Dsk) (n : Int) : (d.csD n).ops.length ≤ d.ops.length + 1 := by
  have h1 := d.cutD_few 0 n
  have h2 := (d.cutD 0 n).syncD_few
  unfold Dsk.csD
  split <;> omega

/-- The files with the log cut. -/
def cutF (F : Fs) (sz : Nat) : Fs := fun i => if i = 0 then (F 0).take sz else F i

theorem apply_cutF (F : Fs) (sz : Nat) : apply ⟨0, false, [], sz⟩ F = cutF F sz := by
  funext i
  simp only [apply, cutF, Ch.on]
  by_cases h : i = 0
  · subst h; simp
  · simp [h]

section
variable {st : Nat → List UInt8}

theorem cs_plain {d : Dsk} {sz : Nat} {all : List KB} {lo : Nat} (hsz : sz ≤ (d.cur 0).length) (hi : d.Inv) (ho : Outs st d all lo) (hg : Good st (cutF d.cur sz) all lo) :
    (d.csE sz = 0 → (d.csD sz).ops = [] ∧ (d.csD sz).cur = cutF d.cur sz ∧ (Free d → Free (d.csD sz))) ∧ (d.csD sz).Inv ∧ Outs st (d.csD sz) all lo ∧ (Free d → d.csE sz = 0) := by
  obtain ⟨hE, hD⟩ := cut_eq hsz
  have hi1 := hi.cutD (0 : Nat) sz
  have ho1 : Outs st (d.cutD (0 : Nat) sz) all lo := by
    rw [hD]
    split
    · exact ho.went
    · refine Outs.note ho.went hi.went (fun t => ?_) ?_
      · rw [if_neg (by simp), Dsk.went_cur]; exact ho.cur hi
      · rw [Dsk.went_cur, apply_cutF]; exact hg
  have hcE : d.csE sz = if d.cutE (0 : Nat) sz = 0 then (d.cutD (0 : Nat) sz).errs else d.cutE (0 : Nat) sz := rfl
  have hcD : d.csD sz = if d.cutE (0 : Nat) sz = 0 then (d.cutD (0 : Nat) sz).syncD else d.cutD (0 : Nat) sz := rfl
  by_cases e1 : d.cutE (0 : Nat) sz = 0
  · rw [if_pos e1] at hcE hcD
    have e0 : d.errs = 0 := by rw [← hE]; exact e1
    rw [if_neg (by rw [e0]; simp)] at hD
    obtain ⟨o2, i2, _⟩ := step_sync ho1 hi1
    rw [hcD, hcE]
    have hfree : Free d → Free (d.cutD (0 : Nat) sz) := fun h => by rw [hD]; exact h.went
    refine ⟨fun e => ?_, i2, o2, fun h => ?_⟩
    · have hS : (d.cutD (0 : Nat) sz).syncD = (d.cutD (0 : Nat) sz).went.sync := by unfold Dsk.syncD; rw [if_neg (by rw [e]; simp)]
      rw [hS]
      refine ⟨rfl, ?_, fun h => (hfree h).went⟩
      show (d.cutD (0 : Nat) sz).went.cur = _
      rw [Dsk.went_cur, hD]
      show apply ⟨0, false, [], sz⟩ d.went.cur = _
      rw [Dsk.went_cur, apply_cutF]
    · have := hfree h
      exact errs_free this.1 this.2.1 this.2.2
  · rw [if_neg e1] at hcE hcD
    rw [hcD, hcE]
    refine ⟨fun e => absurd e e1, hi1, ho1, fun h => ?_⟩
    rw [hE]
    exact errs_free h.1 h.2.1 h.2.2

theorem clean_life {d' : Dsk} {all : List KB} {told f q a' : Nat} {hv : Bool} (hS : Sts st d'.cur f q hv) (ha : a' ≤ q) (hq : q ≤ told) (ht : told ≤ all.length) (h0 : d'.cur 0 = logB (a' + 1) (seg all a' told)) (hops : d'.ops = []) (hi : d'.Inv) (hsm : ∀ r ∈ all, r.2.length ≤ 65536) : Life st (all.take told) ⟨d', told, told, f, false⟩ := by
  have hl : (all.take told).length = told := by rw [List.length_take]; omega
  have h0' : d'.cur 0 = logB (a' + 1) (seg (all.take told) a' (all.take told).length) := by rw [hl, seg_take (Nat.le_refl _)]; exact h0
  have hg := good_clean hS ha (by omega) h0'
  rw [hl] at hg
  refine ⟨fun k t => ?_, hi, fun r hr => hsm r (List.mem_of_mem_take hr), fun _ => ⟨hl.symm, by simp only; omega, q, hv, a', hS, ha, by omega, h0'⟩⟩
  simp only
  rw [hops, kept_out (by simp)]
  refine hg.congr (fun i hi3 => ?_)
  have := hi.now i hi3
  rw [hops] at this
  exact this.symm

/-- What Open answers, and leaves. -/
def OpenK (st : Nat → List UInt8) (base : Nat) (w : World) (p : Nat) (x : Dx) (d : Dsk) (all : List KB) (lo : Nat) (e : Ending) (w' : World) : Prop :=
  (∃ (gj : Nat) (sa : Option Addr) (sc : Nat) (v : Value) (x' : Dx) (d' : Dsk) (f q m : Nat) (hv : Bool) (rs : List Rm) (ra : Option Addr) (rc : Nat), e = .returned (.tuple #[.pointer (some ⟨gj, 0, none⟩), .slice sa (if hv = true then st q else []).length sc, v, .int .i64 0]) ∧
    JIs base w' gj p x' ⟨d', max q m, max q m, f, false⟩ ∧ w.heap.size ≤ gj ∧ Own w' w.heap.size (.slice sa (if hv = true then st q else []).length sc) (if hv = true then st q else []) ∧ (hv = false → q = 0) ∧
    v = .slice ra rs.length rc ∧ rs.length ≤ rc ∧ RAt w' ra rs ∧ rs.map Rm.plain = plainL (q + 1) (seg all q m) ∧
    lo ≤ max q m ∧ q ≤ all.length ∧ m ≤ all.length ∧ Life st (all.take (max q m)) ⟨d', max q m, max q m, f, false⟩ ∧ d'.ops = [] ∧ (Free d → Free d') ∧ Grow w p x x' ∧ Kp (Turn p x) w w') ∨
  (∃ (E : Int) (x' : Dx) (d' : Dsk), ¬ Free d ∧ e = .returned (.tuple #[.pointer none, .slice none 0 0, .slice none 0 0, .int .i64 E]) ∧ Sole base w' p x' d' ∧ Outs st d' all lo ∧ d'.ops.length ≤ 10 ∧ Grow w p x x' ∧ Kp (Turn p x) w w')
end
end Go.Proofs.Ytcbgnodmamcmkaa
