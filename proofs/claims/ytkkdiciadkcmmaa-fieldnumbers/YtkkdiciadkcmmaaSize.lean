/- What sizeOf answers of a right field: how many bytes it has. -/
import Derived.Test.YtkkdiciadkcmmaaRight3
namespace Go.Proofs.Ytkkdiciadkcmmaa
open Go.RowKit

theorem flatN_len (ns : List Int) : (ns.flatMap encN).length = 8 * ns.length := by
  induction ns with
  | nil => rfl
  | cons x r ih => rw [List.flatMap_cons, List.length_append, encN_len, ih, List.length_cons]; omega

theorem flatT_snoc (ts : List ByteArray) (j : Nat) (h : j < ts.length) : ((ts.take (j + 1)).flatMap encT) = (ts.take j).flatMap encT ++ encT ts[j] := by
  rw [List.take_succ_eq_append_getElem h, List.flatMap_append]; simp

theorem flatN_snoc (ns : List Int) (j : Nat) (h : j < ns.length) : ((ns.take (j + 1)).flatMap encN) = (ns.take j).flatMap encN ++ encN ns[j] := by
  rw [List.take_succ_eq_append_getElem h, List.flatMap_append]; simp

theorem flatT_le (ts : List ByteArray) (h : ∀ s ∈ ts, s.size ≤ 65535) : (ts.flatMap encT).length ≤ ts.length * 65537 := by
  induction ts with
  | nil => simp
  | cons x r ih =>
    rw [List.flatMap_cons, List.length_append, encT_len, List.length_cons]
    have h1 := ih (fun s hs => h s (by simp [hs]))
    have h2 := h x (by simp)
    omega

theorem flatT_take_le (ts : List ByteArray) (h : ∀ s ∈ ts, s.size ≤ 65535) (j : Nat) : ((ts.take j).flatMap encT).length ≤ ts.length * 65537 := by
  have h1 := flatT_le (ts.take j) (fun s hs => h s (List.mem_of_mem_take hs))
  have h2 : (ts.take j).length ≤ ts.length := by rw [List.length_take]; omega
  exact Nat.le_trans h1 (Nat.mul_le_mul_right _ h2)

theorem body1 (tag : UInt8) (n : Int) (text : ByteArray) (ns : List Int) (ts : List ByteArray) : bytesF ⟨tag, 1, n, text, ns, ts⟩ = [tag, 1] ++ be 8 (u64 n) := by simp [bytesF, bodyF, encN]
theorem body2 (tag : UInt8) (n : Int) (text : ByteArray) (ns : List Int) (ts : List ByteArray) : bytesF ⟨tag, 2, n, text, ns, ts⟩ = [tag, 2] ++ be 2 text.size ++ text.data.toList := by simp [bytesF, bodyF, encT]
theorem body3 (tag : UInt8) (n : Int) (text : ByteArray) (ns : List Int) (ts : List ByteArray) : bytesF ⟨tag, 3, n, text, ns, ts⟩ = [tag, 3] ++ be 2 ns.length ++ ns.flatMap encN := by simp [bytesF, bodyF]
theorem body4 (tag : UInt8) (n : Int) (text : ByteArray) (ns : List Int) (ts : List ByteArray) : bytesF ⟨tag, 4, n, text, ns, ts⟩ = [tag, 4] ++ be 2 ts.length ++ ts.flatMap encT := by simp [bytesF, bodyF]

theorem good_len {f : Fd} (h : Good f) : (bytesF f).length ≤ 20000000 := by
  obtain ⟨tag, kind, n, text, ns, ts⟩ := f
  rcases h with ⟨rfl, _⟩ | ⟨rfl, _, _, h2, _⟩ | ⟨rfl, _, _, _, h3, _⟩ | ⟨rfl, _, _, _, _, h4, h5⟩
  · rw [body1]; simp [be_length]
  · rw [body2]; simp [be_length]; simp only at h2; omega
  · rw [body3]; simp only [List.length_append, be_length, flatN_len, List.length_cons, List.length_nil]; simp only at h3; omega
  · rw [body4]; have := flatT_le ts h5; simp only [List.length_append, be_length, List.length_cons, List.length_nil]; simp only at h4; omega

set_option maxRecDepth 100000 in
set_option maxHeartbeats 4000000 in
theorem size34 (tg K n : Int) (text : ByteArray) (na ta : Option Addr) (nl tl nc tc : Nat) (texts : List ByteArray) (w : World) (e1 : (K == 1) = false) (e2 : (K == 2) = false) (hnl : nl ≤ 256) (htl : texts.length = tl) (h5 : tl ≤ 256) (h6 : ∀ s ∈ texts, s.size ≤ 65535) (hts : TAt w ta texts) :
    Calls Try.prog 26 #[.agg #[.int .u8 tg, .int .u8 K, .int .i64 n, .string text, .slice na nl nc, .slice ta tl tc]] w fun e w' => e = .returned (.int .i64 ((4 + 8 * nl + (texts.flatMap encT).length : Nat) : Int)) ∧ Below w.heap.size w w' := by
  have hle : ∀ j, ((texts.take j).flatMap encT).length ≤ tl * 65537 := fun j => by rw [← htl]; exact flatT_take_le texts h6 j
  replace hle := hid hle
  replace htl := hid htl
  go_enter Try.func26, Try.ntmps26
  go_wp2
  go_loopw [3, 24] (fun s i wr => ∃ j : Nat, j ≤ tl ∧ i = .int .i64 j ∧ s = .int .i64 ((4 + 8 * nl + ((texts.take j).flatMap encT).length : Nat) : Int) ∧ Below w.heap.size w wr) (fun _ i _ => tl - (intOf i).toNat)
  case atStart => exact ⟨0, Nat.zero_le _, rfl, by simp, below_lit w _⟩
  case round =>
    obtain ⟨j, hj, rfl, rfl, hb⟩ := hrel
    by_cases hlt : j < tl
    · obtain ⟨b, o, rfl, hc⟩ := TAt.form (CAt.below hts hb) (by intro e; subst e; have := htl.out; simp at this; omega)
      have hcj := hc j (by have := htl.out; omega)
      have hsn := flatT_snoc texts j (by have := htl.out; omega)
      have hs := h6 (texts[j]'(by have := htl.out; omega)) (List.getElem_mem _)
      have hen := encT_len (texts[j]'(by have := htl.out; omega))
      have hlj := hle.out j
      clear hc
      generalize texts[j]'(by have := htl.out; omega) = s at *
      replace hsn := congrArg List.length hsn
      rw [List.length_append, hen] at hsn
      generalize ((texts.take j).flatMap encT).length = L at *
      replace hsn := hid hsn
      replace hen := hid hen
      go_wp2
      go_roundw
      case rel => exact ⟨j + 1, by omega, by go_num, by rw [hsn.out]; congr 1; omega, hb⟩
      case measure => simp [intOf]; omega
    · have hjn : j = tl := by omega
      subst hjn
      go_wp2
      go_ret
      refine ⟨ret_int ?_, hb⟩
      rw [← htl.out, List.take_length]

set_option maxRecDepth 100000 in
set_option maxHeartbeats 4000000 in
theorem size_any (i : It) (w : World) (hit : ItAt w i) (hg : Good i.fd) :
    Calls Try.prog 26 #[i.val] w fun e w' => e = .returned (.int .i64 ((bytesF i.fd).length : Int)) ∧ Below w.heap.size w w' := by
  obtain ⟨⟨tag, kind, n, text, ns, texts⟩, na, nc, ta, tc⟩ := i
  obtain ⟨hns, hts, _⟩ := hit
  unfold It.val
  rcases hg with ⟨rfl, _, _, _, _⟩ | ⟨rfl, _, _, h2, _, _⟩ | ⟨rfl, _, _, _, h3, h4⟩ | ⟨rfl, _, _, h3, h4, h5, h6⟩ <;> simp only at *
  · rw [body1]
    go_enter Try.func26, Try.ntmps26
    go_wp2
    go_ret
    exact ⟨ret_int (by simp [be_length]), below_lit w _⟩
  · rw [body2]
    go_enter Try.func26, Try.ntmps26
    go_wp2
    go_ret
    exact ⟨ret_int (by simp [be_length]; omega), below_lit w _⟩
  · subst h4
    rw [body3]
    refine (size34 _ 3 _ _ _ _ ns.length 0 _ _ [] w rfl rfl h3 rfl (by omega) (by simp) hts).mono ?_
    rintro e w' ⟨rfl, hb⟩
    exact ⟨ret_int (by simp only [List.length_append, be_length, flatN_len, List.length_cons, List.length_nil, List.flatMap_nil]; omega), hb⟩
  · subst h3
    rw [body4]
    refine (size34 _ 4 _ _ _ _ 0 texts.length _ _ texts w rfl rfl (by omega) rfl h5 h6 hts).mono ?_
    rintro e w' ⟨rfl, hb⟩
    exact ⟨ret_int (by simp only [List.length_append, be_length, List.length_cons, List.length_nil]), hb⟩
end Go.Proofs.Ytkkdiciadkcmmaa
