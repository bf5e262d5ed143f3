/- JournalBack, plain: what records of bodies are told, and what is read of them. -/
import Derived.Test.YtcbgnodmamcmkaaLogCut
import Derived.Test.YtcbgnodmamcmkaaAwake
namespace Go.Proofs.Ytcbgnodmamcmkaa
open Go.RowKit

abbrev KB := UInt8 × List UInt8

/-- What is told of the first i bodies. -/
def rsT (bs : List (List UInt8)) : Nat → List KB
  | 0 => []
  | i + 1 => if (bs.getD i []).length ≤ 65536 then rsT bs i ++ [(UInt8.ofNat i, bs.getD i [])] else rsT bs i

theorem rsT_len (bs : List (List UInt8)) (i : Nat) : (rsT bs i).length ≤ i := by
  induction i with
  | zero => simp [rsT]
  | succ i ih =>
    unfold rsT
    split
    · simp; omega
    · omega

theorem rsT_short (bs : List (List UInt8)) (i : Nat) : ∀ r ∈ rsT bs i, r.2.length ≤ 65536 := by
  induction i with
  | zero => intro r hr; simp [rsT] at hr
  | succ i ih =>
    intro r hr
    unfold rsT at hr
    split at hr
    · rename_i h
      rcases List.mem_append.1 hr with h1 | h1
      · exact ih r h1
      · rw [List.mem_singleton.1 h1]; exact h
    · exact ih r hr

theorem logB_snoc : ∀ (rs : List KB) (N : Nat) (r : KB), logB N (rs ++ [r]) = logB N rs ++ entB (N + rs.length) r.1 r.2
  | [], N, r => by simp [logB]
  | q :: rs, N, r => by
    simp only [List.cons_append, logB, List.length_cons]
    rw [logB_snoc rs (N + 1) r, List.append_assoc, show N + 1 + rs.length = N + (rs.length + 1) by omega]

theorem logB_len : ∀ (rs : List KB) (N : Nat), (∀ r ∈ rs, r.2.length ≤ 65536) → (logB N rs).length ≤ rs.length * 65553
  | [], N, _ => by simp [logB]
  | r :: rs, N, h => by
    have h1 := h r (by simp)
    have h2 := logB_len rs (N + 1) (fun q hq => h q (by simp [hq]))
    simp only [logB, List.length_append, entB_len, List.length_cons]
    omega

/-- Numbers, kinds and bodies. -/
def plainL : Nat → List KB → List (Int × Int × List UInt8)
  | _, [] => []
  | N, r :: rs => ((N : Int), (r.1.toNat : Int), r.2) :: plainL (N + 1) rs

theorem plainL_snoc : ∀ (rs : List KB) (N : Nat) (r : KB), plainL N (rs ++ [r]) = plainL N rs ++ [(((N + rs.length : Nat) : Int), (r.1.toNat : Int), r.2)]
  | [], N, r => by simp [plainL]
  | q :: rs, N, r => by
    simp only [List.cons_append, plainL, List.length_cons]
    rw [plainL_snoc rs (N + 1) r, show N + 1 + rs.length = N + (rs.length + 1) by omega]

theorem plainL_take : ∀ (rs : List KB) (N k : Nat), plainL N (rs.take k) = (plainL N rs).take k
  | [], N, k => by simp [plainL]
  | r :: rs, N, 0 => by simp [plainL]
  | r :: rs, N, k + 1 => by simp only [List.take_succ_cons, plainL]; rw [plainL_take rs (N + 1) k]

theorem plainL_len : ∀ (rs : List KB) (N : Nat), (plainL N rs).length = rs.length
  | [], _ => rfl
  | r :: rs, N => by simp [plainL, plainL_len rs]

theorem rx_plain : ∀ (rs : List KB) (N : Nat) (pre z : List UInt8) (xs : List RX), (∀ r ∈ rs, r.2.length ≤ 65536) → N + rs.length ≤ 4611686018427387905 → xs.map (·.p) = logP pre.length rs →
    (xs.map (RX.rm (pre ++ (logB N rs ++ z)))).map Rm.plain = plainL N rs
  | [], N, pre, z, xs, _, _, hx => by
    have : xs = [] := by simpa [logP] using hx
    subst this; rfl
  | r :: rs, N, pre, z, xs, hb, hm, hx => by
    cases xs with
    | nil => simp [logP] at hx
    | cons x xs =>
      simp only [logP, List.map_cons, List.cons.injEq] at hx
      have hr := hb r (by simp)
      simp only [List.length_cons] at hm
      have hH : Holds (pre ++ (logB N (r :: rs) ++ z)) pre.length N r.1 r.2 := ⟨pre, logB (N + 1) rs ++ z, by simp [logB, List.append_assoc], rfl⟩
      have he : pre ++ (logB N (r :: rs) ++ z) = (pre ++ entB N r.1 r.2) ++ (logB (N + 1) rs ++ z) := by simp [logB, List.append_assoc]
      have hl : (pre ++ entB N r.1 r.2).length = pre.length + 17 + r.2.length := by rw [List.length_append, entB_len]; omega
      have ih := rx_plain rs (N + 1) (pre ++ entB N r.1 r.2) z xs (fun q hq => hb q (by simp [hq])) (by omega) (by rw [hl]; exact hx.2)
      simp only [List.map_cons, plainL]
      rw [he, ih, ← he]
      congr 1
      unfold RX.rm Rm.plain
      dsimp only
      rw [hx.1, hH.num (by omega), hH.kind, hH.body_at (by omega)]

/-- Where each one ends. -/
def endsT (N : Nat) (rs : List KB) : List Int := (List.range rs.length).map fun k => ((logB N (rs.take (k + 1))).length : Int)

theorem endsT_len (N : Nat) (rs : List KB) : (endsT N rs).length = rs.length := by simp [endsT]

theorem endsT_snoc (N : Nat) (rs : List KB) (r : KB) : endsT N (rs ++ [r]) = endsT N rs ++ [((logB N (rs ++ [r])).length : Int)] := by
  unfold endsT
  rw [List.length_append, List.length_singleton, List.range_succ, List.map_append]
  congr 1
  · apply List.map_congr_left
    intro k hk
    have := List.mem_range.1 hk
    rw [List.take_append_of_le_length (by omega)]
  · simp only [List.map_cons, List.map_nil]
    rw [List.take_of_length_le (by simp)]

theorem endsT_get {N : Nat} {rs : List KB} {i : Nat} (h : i < rs.length) : (endsT N rs)[i]'(by rw [endsT_len]; exact h) = ((logB N (rs.take (i + 1))).length : Int) := by simp [endsT]

theorem logB_mono (N : Nat) (rs : List KB) {i j : Nat} (h : i ≤ j) : (logB N (rs.take i)).length ≤ (logB N (rs.take j)).length := by
  induction j with
  | zero => have : i = 0 := by omega
            subst this; exact Nat.le_refl _
  | succ j ih =>
    rcases Nat.lt_or_ge i (j + 1) with h1 | h1
    · refine Nat.le_trans (ih (by omega)) ?_
      rcases Nat.lt_or_ge j rs.length with h2 | h2
      · rw [List.take_add_one, List.getElem?_eq_getElem h2]
        rw [show (some rs[j]).toList = [rs[j]] from rfl, logB_snoc, List.length_append]
        omega
      · rw [List.take_of_length_le (by omega), List.take_of_length_le (by omega)]
        exact Nat.le_refl _
    · have : i = j + 1 := by omega
      subst this; exact Nat.le_refl _

/-- How many are whole, and where they end, as it is looked for. -/
def whT (N : Nat) (rs : List KB) (c : Nat) : Nat → Nat × Nat
  | 0 => (0, 0)
  | k + 1 => if (logB N (rs.take (k + 1))).length ≤ c then (k + 1, (logB N (rs.take (k + 1))).length) else whT N rs c k

theorem wh_eq {N : Nat} {rs : List KB} {c k : Nat} (hk : k ≤ rs.length) (h1 : (logB N (rs.take k)).length ≤ c) (h2 : k < rs.length → c < (logB N (rs.take (k + 1))).length) : whT N rs c rs.length = (k, (logB N (rs.take k)).length) := by
  have key : ∀ d, k + d ≤ rs.length → whT N rs c (k + d) = (k, (logB N (rs.take k)).length) := by
    intro d
    induction d with
    | zero =>
      intro _
      cases k with
      | zero => simp [whT, logB]
      | succ k => unfold whT; rw [Nat.add_zero, if_pos h1]
    | succ d ih =>
      intro hd
      have := h2 (by omega)
      have hm := logB_mono N rs (show k + 1 ≤ k + d + 1 by omega)
      show (if (logB N (rs.take (k + d + 1))).length ≤ c then _ else whT N rs c (k + d)) = _
      rw [if_neg (by omega), ih (by omega)]
  have := key (rs.length - k) (by omega)
  rw [show k + (rs.length - k) = rs.length by omega] at this
  exact this

/-- What Records reads of all of it. -/
theorem all_read (rs : List KB) (N : Nat) (nx : Int) (hb : ∀ r ∈ rs, r.2.length ≤ 65536) (hN : 1 ≤ N) (hm : N + rs.length ≤ 4611686018427387905) (hx : nx = 0 ∨ nx = N) (xs : List RX) (hxs : xs.map (·.p) = poss (logB N rs) ((logB N rs).length + 1) 0 nx) :
    (xs.map (RX.rm (logB N rs))).map Rm.plain = plainL N rs ∧ stopOf (logB N rs) xs = (logB N rs).length ∧ xs.length = rs.length := by
  have hlen : rs.length < (logB N rs).length + 1 := by
    clear hxs hx hm hN
    induction rs generalizing N with
    | nil => simp
    | cons r rs ih =>
      have := ih (N + 1) (fun q hq => hb q (by simp [hq]))
      simp only [logB, List.length_append, entB_len, List.length_cons]
      omega
  have hz : ¬ Stands ([] ++ (logB N rs ++ [])) (([] : List UInt8).length + (logB N rs).length) (if rs = [] then nx else ((N + rs.length : Nat) : Int)) := by
    have := no_stand_nil (logB N rs) (if rs = [] then nx else ((N + rs.length : Nat) : Int))
    simpa using this
  have hp := poss_log rs ((logB N rs).length + 1) N nx [] [] hb hN hm hx hlen hz
  simp only [List.nil_append, List.append_nil, List.length_nil] at hp
  rw [hp] at hxs
  have h1 := rx_plain rs N [] [] xs hb hm (by simpa using hxs)
  simp only [List.nil_append, List.append_nil] at h1
  refine ⟨h1, ?_, ?_⟩
  · rw [stop_map, hxs]
    by_cases he : rs = []
    · subst he; rfl
    · have := stop_log rs N [] [] hb he
      simpa using this
  · have := congrArg List.length hxs
    rw [List.length_map, logP_len] at this
    exact this

/-- What Records reads of a beginning. -/
theorem cut_read (rs : List KB) (N c : Nat) (hb : ∀ r ∈ rs, r.2.length ≤ 65536) (hN : 1 ≤ N) (hm : N + rs.length ≤ 4611686018427387905) (hc : c ≤ (logB N rs).length) (xs : List RX) (hxs : xs.map (·.p) = poss ((logB N rs).take c) (c + 1) 0 (N : Int)) :
    ∃ k, k ≤ rs.length ∧ whT N rs c rs.length = (k, (logB N (rs.take k)).length) ∧ (xs.map (RX.rm ((logB N rs).take c))).map Rm.plain = plainL N (rs.take k) ∧ stopOf ((logB N rs).take c) xs = (logB N (rs.take k)).length ∧ xs.length = k := by
  obtain ⟨k, z, h1, h2, h3, h4, h5⟩ := log_cut rs N c hb hc
  have hb2 : ∀ r ∈ rs.take k, r.2.length ≤ 65536 := fun r hr => hb r (List.mem_of_mem_take hr)
  have hkl : (rs.take k).length = k := by rw [List.length_take]; omega
  have hk17 : ∀ (q : List KB) (M : Nat), q.length ≤ (logB M q).length := by
    intro q
    induction q with
    | nil => intro M; simp
    | cons r q ih =>
      intro M
      have := ih (M + 1)
      simp only [logB, List.length_append, entB_len, List.length_cons]
      omega
  have hf : (rs.take k).length < c + 1 := by have := hk17 (rs.take k) N; omega
  have hp := poss_log (rs.take k) (c + 1) N (N : Int) [] z hb2 hN (by omega) (.inr rfl) hf (h5 [] _)
  simp only [List.nil_append, List.length_nil] at hp
  rw [h2, hp] at hxs
  refine ⟨k, h1, wh_eq h1 h3 h4, ?_, ?_, ?_⟩
  · have := rx_plain (rs.take k) N [] z xs hb2 (by omega) (by simpa using hxs)
    rw [h2]
    simpa using this
  · rw [h2, stop_map, hxs]
    by_cases he : rs.take k = []
    · rw [he]; rfl
    · have := stop_log (rs.take k) N [] z hb2 he
      simpa using this
  · have := congrArg List.length hxs
    rw [List.length_map, logP_len, hkl] at this
    exact this

/-- With another number nothing is read. -/
theorem none_read (rs : List KB) (N : Nat) (f : Nat) (hb : ∀ r ∈ rs, r.2.length ≤ 65536) (hm : N + rs.length ≤ 4611686018427387905) : poss (logB N rs) f 0 ((N : Int) + 1) = [] := by
  refine poss_no _ _ _ _ fun h => ?_
  cases rs with
  | nil => exact no_stand_nil [] ((N : Int) + 1) (by simpa [logB] using h)
  | cons r rs =>
    have hr := hb r (by simp)
    simp only [List.length_cons] at hm
    have hH : Holds (logB N (r :: rs)) 0 N r.1 r.2 := ⟨[], logB (N + 1) rs, by simp [logB], rfl⟩
    have := h.2.2
    rw [hH.num (by omega)] at this
    omega

end Go.Proofs.Ytcbgnodmamcmkaa
