/- What a record among the arguments is. -/
import Derived.Test.YtcbgnodmamcmkaaBackArg
namespace Go.Proofs.Ytcbgnodmamcmkaa
open Go.ChangeShapes Go.WideShapes Go.ChangeAt Go.RowKit

theorem struct27 : ∃ f0 f1 f2 : Field, Try.prog.underlying 27 = some (.struct #[f0, f1, f2]) ∧ f0.offset = 0 ∧ f1.offset = 1 ∧ f2.offset = 2 ∧ f0.type = 3 ∧ f1.type = 5 ∧ f2.type = 22 :=
  ⟨_, _, _, Try.underlying27, rfl, rfl, rfl, rfl, rfl, rfl⟩
theorem bytes5 : Try.prog.bytesOf 5 = 1 := by kernel_rfl
theorem len3 {α : Type} : ∀ {l : List α}, l.length = 3 → ∃ a b c, l = [a, b, c]
  | [a, b, c], _ => ⟨a, b, c, rfl⟩

set_option maxRecDepth 100000 in
theorem rec_arg {H : Type} {enc : TypeId × Value → H} {W : World} {base base2 : Nat} {V : Value} {d0 : DataW H} {p0 : List MemPlace} (hv : Value.okWide Try.prog W .any base2 27 V)
    (h0 : DataW.Trod enc Try.prog W base (fun _ => true) true 27 V d0 p0) :
    ∃ (num : Int) (kind : UInt8) (a : Option Addr) (cap : Nat) (body : List UInt8), V = .agg #[.int .i64 num, .int .u8 (kind.toNat : Int), .slice a body.length cap] ∧ At W a body ∧ (body.length = 0 ∨ ∃ k ∈ d0.weights Try.prog 27, body.length ≤ k) := by
  obtain ⟨f0, f1, f2, he, o0, o1, o2, t0, t1, t2⟩ := struct27
  have c3 : Try.prog.cellsOf 3 = 1 := by kernel_rfl
  have c5 : Try.prog.cellsOf 5 = 1 := by kernel_rfl
  have c22 : Try.prog.cellsOf 22 = 1 := by kernel_rfl
  have c27 : Try.prog.cellsOf 27 = 3 := by kernel_rfl
  obtain ⟨cs, rfl, hsz⟩ := okWide_struct he hv
  rw [c27] at hsz
  obtain ⟨fuel, hf⟩ := h0
  obtain ⟨xs, k, hk, hxy, _, hxl, hfs⟩ := DataW.trod_struct he hf
  obtain ⟨y0, y1, y2, rfl⟩ := len3 (l := xs) (by simpa using hxl)
  obtain ⟨l⟩ := cs
  obtain ⟨v0, v1, v2, rfl⟩ := len3 (l := l) (by simpa using hsz)
  have g0 := hfs 0 f0 rfl
  have g1 := hfs 1 f1 rfl
  have g2 := hfs 2 f2 rfl
  simp [o0, o1, o2, t0, t1, t2, c3, c5, c22, Value.cells] at g0 g1 g2
  obtain ⟨k0, hk0, _, _⟩ := DataW.trod_int Try.underlying3 g0
  obtain ⟨k1, hk1, _, w1⟩ := DataW.trod_int Try.underlying5 g1
  have e0 : v0 = .int .i64 k0 := by simpa using hk0
  have e1 : v1 = .int .u8 k1 := by simpa using hk1
  have hb := bounds_u8 w1
  have hV : (∃ a len cap, v2 = .slice a len cap ∧ ((a = none ∧ len = 0 ∧ cap = 0) ∨ ∃ elems spare, y2.1 = .slice elems spare ∧ elems.length + spare.length = cap)) := by
    rcases Deep.open_slice Try.underlying22 g2 with ⟨hcs, _⟩ | ⟨x, len, cap, m, n, D, Pl, hcs, _, hl, hm, hmm, hd, _⟩
    · exact ⟨none, 0, 0, by simpa using hcs, .inl ⟨rfl, rfl, rfl⟩⟩
    · have hmc : m = cap := by rw [hmm]; rfl
      exact ⟨some x, len, cap, by simpa using hcs, .inr ⟨_, _, by rw [hd], by simp; omega⟩⟩
  obtain ⟨a, len, cap, e2, hw2⟩ := hV
  subst e0 e1 e2
  obtain ⟨B, hB, hat, hlc, _⟩ := bytes_arg (H := H) (d0 := y2.1) (p0 := y2.2) ⟨_, g2⟩
  have hkk : ((UInt8.ofNat k1.toNat).toNat : Int) = k1 := by
    rw [UInt8.toNat_ofNat', Nat.mod_eq_of_lt (by omega)]
    omega
  refine ⟨k0, UInt8.ofNat k1.toNat, a, cap, B, by rw [hB, hkk], hat, ?_⟩
  rcases hw2 with ⟨_, h1, _⟩ | ⟨elems, spare, h1, h2⟩
  · left; omega
  · right
    refine ⟨(elems.length + spare.length) * Try.prog.bytesOf 5, ?_, ?_⟩
    · simp only [Prod.mk.injEq] at hxy
      rw [hxy.1]
      simp only [DataW.weights, he, List.map_cons, List.map_nil, DataW.weightsEach, List.mem_append, t2, h1, Try.underlying22]
      simp
    · rw [bytes5]; omega

theorem reach_rec {H : Type} {ts : List TypeId} {ds : List (DataW H)} (hsz : (DataW.weightsEach Try.prog ts ds).all (· ≤ reachBytes) = true) {j : Nat} {d0 : DataW H} (ht : ts[j]? = some 27) (hd : ds[j]? = some d0) {n : Nat}
    (h : n = 0 ∨ ∃ k ∈ d0.weights Try.prog 27, n ≤ k) : n ≤ 140737488351232 := by
  rcases h with h1 | ⟨k, hk, hle⟩
  · omega
  · have h3 := List.all_eq_true.1 hsz k (DataW.weights_mem_each ht hd k hk)
    have h2 : reachBytes = 140737488351232 := rfl
    simp only [decide_eq_true_eq] at h3
    omega

theorem reach_bytes {H : Type} {ts : List TypeId} {ds : List (DataW H)} (hsz : (DataW.weightsEach Try.prog ts ds).all (· ≤ reachBytes) = true) {j : Nat} {d0 : DataW H} {cap0 : Nat} (ht : ts[j]? = some 22) (hd : ds[j]? = some d0)
    (h : (d0 = .nil ∧ cap0 = 0) ∨ ∃ elems spare, d0 = .slice elems spare ∧ elems.length + spare.length = cap0) : cap0 ≤ 140737488351232 := by
  rcases h with ⟨_, rfl⟩ | ⟨elems, spare, rfl, rfl⟩
  · omega
  · have := sized_slice hsz (j := j) (t := 22) (e := 5) ht hd Try.underlying22
    rw [bytes5] at this
    have h2 : reachBytes = 140737488351232 := rfl
    omega

end Go.Proofs.Ytcbgnodmamcmkaa
