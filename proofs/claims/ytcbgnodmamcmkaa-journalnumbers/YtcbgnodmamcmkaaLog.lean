/- Plain logs: what stands where the bytes of an entry stand. -/
import Derived.Test.YtcbgnodmamcmkaaRecs
namespace Go.Proofs.Ytcbgnodmamcmkaa

theorem mid (pre m z : List UInt8) (n : Nat) (h : m.length = n) : ((pre ++ (m ++ z)).drop pre.length).take n = m := by
  rw [List.drop_left, List.take_append_of_le_length (by omega), List.take_of_length_le (by omega)]
theorem mid_at (l pre m z : List UInt8) (p n : Nat) (hl : l = pre ++ (m ++ z)) (hp : pre.length = p) (h : m.length = n) : (l.drop p).take n = m := by
  subst hl; subst hp; exact mid pre m z n h

/-- An entry's bytes stand at p. -/
def Holds (l : List UInt8) (p N : Nat) (k : UInt8) (body : List UInt8) : Prop := ∃ pre z, l = pre ++ (entB N k body ++ z) ∧ pre.length = p

section
variable {l : List UInt8} {p N : Nat} {k : UInt8} {body : List UInt8}
theorem Holds.size (h : Holds l p N k body) (hb : body.length ≤ 4294967000) : sizeAt l p = 9 + body.length := by
  obtain ⟨pre, z, rfl, rfl⟩ := h
  unfold sizeAt
  rw [mid_at _ pre (be 4 (9 + body.length)) (summed N k body ++ be 4 (crcOf (summed N k body)) ++ z) pre.length 4 (by simp [entB, List.append_assoc]) rfl (be_length _ _), numOf_be]
  omega
theorem Holds.sum (h : Holds l p N k body) : (l.drop (p + 4)).take (9 + body.length) = summed N k body := by
  obtain ⟨pre, z, rfl, rfl⟩ := h
  exact mid_at _ (pre ++ be 4 (9 + body.length)) (summed N k body) (be 4 (crcOf (summed N k body)) ++ z) _ _ (by simp [entB, List.append_assoc]) (by simp [be_length]) (summed_len _ _ _)
theorem Holds.crc (h : Holds l p N k body) : numOf ((l.drop (p + 4 + (9 + body.length))).take 4) = crcOf (summed N k body) := by
  obtain ⟨pre, z, rfl, rfl⟩ := h
  rw [mid_at _ (pre ++ be 4 (9 + body.length) ++ summed N k body) (be 4 (crcOf (summed N k body))) z _ 4 (by simp [entB, List.append_assoc]) (by simp [be_length, summed_len]; omega) (be_length _ _), numOf_be]
  exact Nat.mod_eq_of_lt (moreOf_lt _ _)
theorem Holds.num (h : Holds l p N k body) (hN : N < 18446744073709551616) : numAt l p = N := by
  obtain ⟨pre, z, rfl, rfl⟩ := h
  unfold numAt
  rw [mid_at _ (pre ++ be 4 (9 + body.length)) (be 8 N) (be 1 k.toNat ++ body ++ be 4 (crcOf (summed N k body)) ++ z) _ 8 (by simp [entB, summed, List.append_assoc]) (by simp [be_length]) (be_length _ _), numOf_be]
  omega
theorem Holds.kind (h : Holds l p N k body) : kindAt l p = k := by
  obtain ⟨pre, z, rfl, rfl⟩ := h
  unfold kindAt
  rw [mid_at _ (pre ++ be 4 (9 + body.length) ++ be 8 N) (be 1 k.toNat) (body ++ be 4 (crcOf (summed N k body)) ++ z) _ 1 (by simp [entB, summed, List.append_assoc]) (by simp [be_length]) (be_length _ _), numOf_be]
  have := k.toNat_lt
  rw [Nat.mod_eq_of_lt (by omega)]
  simp
theorem Holds.body_at (h : Holds l p N k body) (hb : body.length ≤ 4294967000) : bodyAt l p = body := by
  unfold bodyAt
  rw [h.size hb]
  obtain ⟨pre, z, rfl, rfl⟩ := h
  exact mid_at _ (pre ++ be 4 (9 + body.length) ++ be 8 N ++ be 1 k.toNat) body (be 4 (crcOf (summed N k body)) ++ z) _ _ (by simp [entB, summed, List.append_assoc]) (by simp [be_length]) (by omega)
theorem Holds.stop (h : Holds l p N k body) (hb : body.length ≤ 4294967000) : endAt l p = p + 17 + body.length := by
  unfold endAt; rw [h.size hb]; omega
theorem Holds.len (h : Holds l p N k body) : p + 17 + body.length ≤ l.length := by
  obtain ⟨pre, z, rfl, rfl⟩ := h
  simp [entB_len]
  omega
theorem Holds.ent (h : Holds l p N k body) (mb : Nat) (hb : body.length ≤ mb) (hmb : mb ≤ 4294967000) (hN : N ≤ 4611686018427387904) : EntAt l p mb := by
  have hs := h.size (by omega)
  have hl := h.len
  refine ⟨by omega, by omega, by omega, by omega, ?_, by rw [h.num (by omega)]; exact hN⟩
  rw [hs, h.crc, h.sum]
end

/-- The bytes of records, numbers rising by one from N. -/
def logB : Nat → List (UInt8 × List UInt8) → List UInt8
  | _, [] => []
  | N, r :: rs => entB N r.1 r.2 ++ logB (N + 1) rs
/-- Their places. -/
def logP : Nat → List (UInt8 × List UInt8) → List Nat
  | _, [] => []
  | p, r :: rs => p :: logP (p + 17 + r.2.length) rs

theorem logP_len : ∀ (p : Nat) (rs : List (UInt8 × List UInt8)), (logP p rs).length = rs.length
  | _, [] => rfl
  | p, r :: rs => by unfold logP; rw [List.length_cons, List.length_cons, logP_len]

theorem poss_log : ∀ (rs : List (UInt8 × List UInt8)) (f N : Nat) (nx : Int) (pre z : List UInt8), (∀ r ∈ rs, r.2.length ≤ 65536) → 1 ≤ N → N + rs.length ≤ 4611686018427387905 → (nx = 0 ∨ nx = N) → rs.length < f →
    (¬ Stands (pre ++ (logB N rs ++ z)) (pre.length + (logB N rs).length) (if rs = [] then nx else ((N + rs.length : Nat) : Int))) → poss (pre ++ (logB N rs ++ z)) f pre.length nx = logP pre.length rs := by
  intro rs
  induction rs with
  | nil =>
    intro f N nx pre z _ _ _ _ _ hz
    simp only [logB, if_true, List.length_nil, Nat.add_zero] at hz
    exact poss_no _ _ _ _ hz
  | cons r rs ih =>
    intro f N nx pre z hb hN hm hx hf hz
    obtain ⟨f, rfl⟩ : ∃ g, f = g + 1 := ⟨f - 1, by simp at hf; omega⟩
    have hr := hb r (by simp)
    simp only [List.length_cons] at hm hf
    have hH : Holds (pre ++ (logB N (r :: rs) ++ z)) pre.length N r.1 r.2 := ⟨pre, logB (N + 1) rs ++ z, by simp [logB, List.append_assoc], rfl⟩
    have hn := hH.num (by omega)
    rw [poss_yes _ _ _ _ ⟨hH.ent 65536 hr (by omega) (by omega), by omega, by rw [hn]; rcases hx with h | h; exact .inl h; exact .inr h.symm⟩]
    rw [hn, hH.stop (by omega)]
    unfold logP
    congr 1
    have hl : (pre ++ entB N r.1 r.2).length = pre.length + 17 + r.2.length := by rw [List.length_append, entB_len]; omega
    have he : pre ++ (logB N (r :: rs) ++ z) = (pre ++ entB N r.1 r.2) ++ (logB (N + 1) rs ++ z) := by simp [logB, List.append_assoc]
    rw [he, ← hl]
    refine ih f (N + 1) _ (pre ++ entB N r.1 r.2) z (fun q hq => hb q (by simp [hq])) (by omega) (by omega) (.inr (by omega)) (by omega) ?_
    rw [← he]
    have e2 : (pre ++ entB N r.1 r.2).length + (logB (N + 1) rs).length = pre.length + (logB N (r :: rs)).length := by simp [logB, entB_len]; omega
    rw [e2]
    rw [if_neg (by simp)] at hz
    have e3 : (if rs = [] then ((N : Int) + 1) else ((N + 1 + rs.length : Nat) : Int)) = ((N + (rs.length + 1) : Nat) : Int) := by
      split
      · rename_i h; subst h; simp
      · congr 1; omega
    rw [e3]
    exact hz
end Go.Proofs.Ytcbgnodmamcmkaa
