/- Plain logs that are cut anywhere: the whole records that are left. -/
import Derived.Test.YtcbgnodmamcmkaaLog
import Derived.Test.YtcbgnodmamcmkaaOpen
namespace Go.Proofs.Ytcbgnodmamcmkaa

theorem no_stand_nil (pre : List UInt8) (nx : Int) : ¬ Stands (pre ++ []) pre.length nx := fun h => by
  have := h.1.four
  simp at this
  omega

theorem no_stand (pre : List UInt8) (N : Nat) (k : UInt8) (body : List UInt8) (c : Nat) (nx : Int) (hc : c < 17 + body.length) (hb : body.length ≤ 65536) : ¬ Stands (pre ++ (entB N k body).take c) pre.length nx := fun h => by
  have h4 := h.1.four
  have hs := h.1.sum4
  have hl : (pre ++ (entB N k body).take c).length = pre.length + c := by
    rw [List.length_append, List.length_take, entB_len, Nat.min_eq_left (by omega)]
  rw [hl] at h4 hs
  have hz : sizeAt (pre ++ (entB N k body).take c) pre.length = 9 + body.length := by
    unfold sizeAt
    rw [mid_at _ pre (be 4 (9 + body.length)) ((summed N k body ++ be 4 (crcOf (summed N k body))).take (c - 4)) pre.length 4 ?_ rfl (be_length _ _), numOf_be]
    · omega
    · unfold entB
      rw [List.append_assoc, List.take_append, be_length, List.take_of_length_le (by rw [be_length]; omega)]
  omega

theorem log_cut : ∀ (rs : List (UInt8 × List UInt8)) (N c : Nat), (∀ r ∈ rs, r.2.length ≤ 65536) → c ≤ (logB N rs).length →
    ∃ k z, k ≤ rs.length ∧ (logB N rs).take c = logB N (rs.take k) ++ z ∧ (logB N (rs.take k)).length ≤ c ∧ (k < rs.length → c < (logB N (rs.take (k + 1))).length) ∧ ∀ pre nx, ¬ Stands (pre ++ (logB N (rs.take k) ++ z)) (pre.length + (logB N (rs.take k)).length) nx := by
  intro rs
  induction rs with
  | nil =>
    intro N c _ hc
    simp only [logB, List.length_nil] at hc
    refine ⟨0, [], Nat.le_refl _, by simp [logB], by simp [logB], fun h => by simp at h, fun pre nx => ?_⟩
    simp only [logB, List.take_nil, List.length_nil, List.append_nil, Nat.add_zero]
    have := no_stand_nil pre nx
    rwa [List.append_nil] at this
  | cons r rs ih =>
    intro N c hb hc
    have hr := hb r (by simp)
    have hl : (logB N (r :: rs)).length = 17 + r.2.length + (logB (N + 1) rs).length := by simp [logB, entB_len]
    by_cases h : c < 17 + r.2.length
    · refine ⟨0, (entB N r.1 r.2).take c, Nat.zero_le _, ?_, by simp [logB], fun _ => by simp [logB, entB_len]; omega, fun pre nx => ?_⟩
      · simp only [List.take_zero, logB, List.nil_append]
        rw [List.take_append_of_le_length (by rw [entB_len]; omega)]
      · simp only [List.take_zero, logB, List.nil_append, List.length_nil, Nat.add_zero]
        exact no_stand pre N r.1 r.2 c nx h hr
    · obtain ⟨k, z, h1, h2, h3, h4, h5⟩ := ih (N + 1) (c - (17 + r.2.length)) (fun q hq => hb q (by simp [hq])) (by omega)
      refine ⟨k + 1, z, by simp; omega, ?_, ?_, fun hk => ?_, fun pre nx => ?_⟩
      · simp only [List.take_succ_cons, logB]
        rw [List.take_append, entB_len, h2, List.take_of_length_le (by rw [entB_len]; omega), List.append_assoc]
      · simp only [List.take_succ_cons, logB, List.length_append, entB_len]
        omega
      · have := h4 (by simpa using hk)
        simp only [List.take_succ_cons, logB, List.length_append, entB_len] at this ⊢
        omega
      · have := h5 (pre ++ entB N r.1 r.2) nx
        simp only [List.take_succ_cons, logB, List.length_append, List.append_assoc] at this ⊢
        rwa [Nat.add_assoc] at this

/-- The places of the records of a log that is cut at c. -/
theorem poss_cut (rs : List (UInt8 × List UInt8)) (N c f : Nat) (nx : Int) (hb : ∀ r ∈ rs, r.2.length ≤ 65536) (hc : c ≤ (logB N rs).length) (hN : 1 ≤ N) (hm : N + rs.length ≤ 4611686018427387905) (hx : nx = 0 ∨ nx = N) (hf : rs.length < f) :
    ∃ k, k ≤ rs.length ∧ poss ((logB N rs).take c) f 0 nx = logP 0 (rs.take k) ∧ (logB N (rs.take k)).length ≤ c ∧ (k < rs.length → c < (logB N (rs.take (k + 1))).length) := by
  obtain ⟨k, z, h1, h2, h3, h4, h5⟩ := log_cut rs N c hb hc
  refine ⟨k, h1, ?_, h3, h4⟩
  rw [h2]
  exact poss_log (rs.take k) f N nx [] z (fun r hr => hb r (List.mem_of_mem_take hr)) hN (by rw [List.length_take]; omega) hx (by rw [List.length_take]; omega) (h5 [] _)

/-- Where the last one ends. -/
theorem stop_log : ∀ (rs : List (UInt8 × List UInt8)) (N : Nat) (pre z : List UInt8), (∀ r ∈ rs, r.2.length ≤ 65536) → rs ≠ [] → stopP (pre ++ (logB N rs ++ z)) (logP pre.length rs) = pre.length + (logB N rs).length := by
  intro rs
  induction rs with
  | nil => intro N pre z _ h; exact absurd rfl h
  | cons r rs ih =>
    intro N pre z hb _
    have hr := hb r (by simp)
    have he : pre ++ (logB N (r :: rs) ++ z) = (pre ++ entB N r.1 r.2) ++ (logB (N + 1) rs ++ z) := by simp [logB, List.append_assoc]
    have hl : (pre ++ entB N r.1 r.2).length = pre.length + 17 + r.2.length := by rw [List.length_append, entB_len]; omega
    cases rs with
    | nil =>
      have hH : Holds (pre ++ (logB N [r] ++ z)) pre.length N r.1 r.2 := ⟨pre, z, by simp [logB], rfl⟩
      show endAt _ pre.length = _
      rw [hH.stop (by omega)]
      simp [logB, entB_len]
      omega
    | cons q qs =>
      have := ih (N + 1) (pre ++ entB N r.1 r.2) z (fun t ht => hb t (by simp [ht])) (by simp)
      rw [hl, ← he] at this
      have e2 : stopP (pre ++ (logB N (r :: q :: qs) ++ z)) (logP pre.length (r :: q :: qs)) = stopP (pre ++ (logB N (r :: q :: qs) ++ z)) (logP (pre.length + 17 + r.2.length) (q :: qs)) := by
        unfold stopP
        simp only [logP, List.getLast?_cons_cons]
      rw [e2, this]
      show _ = pre.length + (entB N r.1 r.2 ++ logB (N + 1) (q :: qs)).length
      rw [List.length_append, entB_len]
      omega
end Go.Proofs.Ytcbgnodmamcmkaa
