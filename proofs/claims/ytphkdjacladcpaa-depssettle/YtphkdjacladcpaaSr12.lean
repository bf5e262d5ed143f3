/- A job is taken out of the row: the drawn region. -/
import Derived.Test.YtphkdjacladcpaaJoP
import Derived.Test.YtphkdjacladcpaaAw7
import Derived.Test.YtphkdjacladcpaaDrawAlv
namespace Go.Proofs.Ytphkdjacladcpaa
open Go.RowKit
set_option linter.unusedVariables false
set_option linter.unusedSimpArgs false

def Wd12 (w : World) (J : Job) (L : Nat → Bool) (V : Nat → Value) (w1 : World) : Prop :=
  Below w.heap.size w w1 ∧ (L 11 = false → w1.heap.size = w.heap.size) ∧ (L 11 = true → w1.heap[w.heap.size]? = some (.cells (if L 12 = true then (jc J).toArray else zJ) 42 (0, 0)))
theorem Wd12.same {w w1 : World} {J : Job} {L L2 : Nat → Bool} {V V2 : Nat → Value} (h : Wd12 w J L V w1) (h1 : L2 11 = L 11) (h2 : L2 12 = L 12) : Wd12 w J L2 V2 w1 := by
  unfold Wd12; rw [h1, h2]; exact h
theorem Wd12.new {w w1 : World} {J : Job} {L L2 : Nat → Bool} {V V2 : Nat → Value} (h : Wd12 w J L V w1) (hL : L 11 = false) (h1 : L2 11 = true) (h2 : L2 12 = false) : Wd12 w J L2 V2 (w1.alloc (.cells zJ 42)) := by
  refine ⟨bnext h.1 (below_lit _ _), (fun e => by rw [h1] at e; cases e), fun _ => ?_⟩
  rw [h2, if_neg (by decide), ← h.2.1 hL]
  exact heap_alloc_new w1 _
theorem Wd12.put {w w1 : World} {J : Job} {L L2 : Nat → Bool} {V V2 : Nat → Value} (h : Wd12 w J L V w1) (h11 : L 11 = true) (hL : L 12 = false) (h1 : L2 11 = true) (h2 : L2 12 = true) : Wd12 w J L2 V2 (w1.setRow w.heap.size (jc J).toArray) := by
  have hrow := h.2.2 h11
  rw [if_neg (by rw [hL]; decide)] at hrow
  refine ⟨below_setRow h.1 (Nat.le_refl _) _, (fun e => by rw [h1] at e; cases e), fun _ => ?_⟩
  rw [h2, if_pos rfl]
  exact setRow_heap _ _ _ _ _ _ hrow

def pv12 (w : World) (b o m cm g k rc i p : Nat) (y : Int) (J : Job) : Nat → Value → Prop
  | 0, v => v = .slice (some ⟨g, 0, none⟩) k rc
  | 1, v => v = .int .i64 (p : Int)
  | 2, v => v = .pointer (some ⟨g, p * 17, none⟩)
  | 3, v => v = .agg (jc J).toArray
  | 4, v => v = .slice (some ⟨b, o, none⟩) m cm
  | 5, v => v = .int .i64 (i : Int)
  | 6, v => v = .pointer (some ⟨b, o + i * 2, none⟩)
  | 7, v => v = .pointer (some ⟨b, o + i * 2 + 1, none⟩)
  | 8, v => v = .int .i64 y
  | 9, v => ∃ q : Nat, q < 10 ∧ v = .int .i64 (q : Int)
  | 10, v => ∃ q : Nat, q < 10 ∧ v = .int .u8 (q : Int)
  | 11, v => v = .pointer (some ⟨w.heap.size, 0, none⟩)
  | 12, v => True
  | 13, v => ∃ q : Nat, q < 10 ∧ v = .int .u8 (q : Int)
  | _, _ => True

set_option maxRecDepth 100000 in
set_option maxHeartbeats 4000000 in
theorem set_r12 {FF : Act → World → Prop} {w : World} {b o m cm g k rc i p : Nat} {y : Int} {J : Job} {c0 c1 c3 c4 c5 c6 c8 c9 c12 c13 c14 c15 c16 c17 c18 c19 c20 c21 c22 c23 c24 c25 c26 c27 c28 c29 c30 c31 c32 c33 c34 c35 c36 c37 c38 c39 c40 c41 c42 c43 c44 c45 c46 c47 c48 c49 c50 c51 c52 c53 c54 c55 c56 c57 c58 c59 c60 c61 c62 c63 c64 c65 c66 c67 c68 c69 c70 c71 c72 c73 c74 c75 c76 c77 c78 c79 c80 c81 c82 c83 c84 c85 c86 c87 c88 c89 c90 c91 c92 c93 c94 c95 c96 c97 c98 c99 c100 c101 c102 c103 c104 c105 c106 c107 c108 c109 c110 c111 c112 c113 c114 c115 c116 c117 c118 c119 c120 : Value}
    (hp : p < k) (hi : i < m) (hy : Hid (w.cell? ⟨b, o + i * 2 + 1, none⟩ = some (.int .i64 y))) (hJ : Hid (w.rangeAt g (p * 17) (jc J)))
    (hQ : Hid (∀ (d60 d61 d62 d63 d64 d65 d66 d67 d68 d69 d70 : Value) (q : Nat) (w' : World), q < 10 → Below w.heap.size w w' → w.heap.size < w'.heap.size → w'.heap[w.heap.size]? = some (.cells (jc J).toArray 42 (0, 0)) → FF ⟨#[c0, c1, .slice (some ⟨b, o, none⟩) m cm, c3, c4, c5, c6, .slice (some ⟨g, 0, none⟩) k rc, c8, c9, .int .i64 (i : Int), .int .i64 (p : Int), .pointer (some ⟨w.heap.size, 0, none⟩), .int .u8 (q : Int), c14, c15, c16, c17, c18, c19, c20, c21, c22, c23, c24, c25, c26, c27, c28, c29, c30, c31, c32, c33, c34, c35, c36, c37, c38, c39, c40, c41, c42, c43, c44, c45, c46, c47, c48, c49, c50, c51, c52, c53, c54, c55, c56, c57, c58, c59, d60, d61, d62, d63, d64, d65, d66, d67, d68, d69, d70, c71, c72, c73, c74, c75, c76, c77, c78, c79, c80, c81, c82, c83, c84, c85, c86, c87, c88, c89, c90, c91, c92, c93, c94, c95, c96, c97, c98, c99, c100, c101, c102, c103, c104, c105, c106, c107, c108, c109, c110, c111, c112, c113, c114, c115, c116, c117, c118, c119, c120], []⟩ w')) :
    Code.wp Try.prog ((Try.f4.body.bind (regAt 12)).getD .skip) (Nrm FF) ⟨#[c0, c1, .slice (some ⟨b, o, none⟩) m cm, c3, c4, c5, c6, .slice (some ⟨g, 0, none⟩) k rc, c8, c9, .int .i64 (i : Int), .int .i64 (p : Int), c12, c13, c14, c15, c16, c17, c18, c19, c20, c21, c22, c23, c24, c25, c26, c27, c28, c29, c30, c31, c32, c33, c34, c35, c36, c37, c38, c39, c40, c41, c42, c43, c44, c45, c46, c47, c48, c49, c50, c51, c52, c53, c54, c55, c56, c57, c58, c59, c60, c61, c62, c63, c64, c65, c66, c67, c68, c69, c70, c71, c72, c73, c74, c75, c76, c77, c78, c79, c80, c81, c82, c83, c84, c85, c86, c87, c88, c89, c90, c91, c92, c93, c94, c95, c96, c97, c98, c99, c100, c101, c102, c103, c104, c105, c106, c107, c108, c109, c110, c111, c112, c113, c114, c115, c116, c117, c118, c119, c120], []⟩ w := by
  conv => arg 2; whnf
  refine wp_region_alv (Wd := Wd12 w J) (Pv := pv12 w b o m cm g k rc i p y J) (by kernel_rfl) (by kernel_rfl) ?_ ?_ ?_
  · intro L V2 hL
    exact ⟨drew_below w, fun _ => rfl, fun h => by rw [hL 11] at h; cases h⟩
  · refine ⟨?_, ?_, ?_, ?_, ?_, ?_, ?_, ?_, ?_, ?_, ?_, ?_, ?_, ?_, trivial⟩
    · intro ac w1 L hL hup hcl hW hdd hk Kx hK
      refine yes (want_n rfl) (wp_mv _ rfl _ (get_keep (hk 7 (no_dst (by kernel_rfl))) rfl) ?_)
      exact hK _ _ (fun _ => rfl) (fun L2 V2 i1 i2 i3 i4 => hW.same (i2 11 (by decide)) (i2 12 (by decide)))
    · intro ac w1 L hL hup hcl hW hdd hk Kx hK
      refine yes (want_n rfl) (wp_mv _ rfl _ (get_keep (hk 11 (no_dst (by kernel_rfl))) rfl) ?_)
      exact hK _ _ (fun _ => rfl) (fun L2 V2 i1 i2 i3 i4 => hW.same (i2 11 (by decide)) (i2 12 (by decide)))
    · intro ac w1 L hL hup hcl hW hdd hk Kx hK
      have e60 : ac.tmps[60]?.getD undef = (.slice (some ⟨g, 0, none⟩) k rc : Value) := slot (hdd 0 _ 60 rfl rfl rfl)
      have e61 : ac.tmps[61]?.getD undef = (.int .i64 (p : Int) : Value) := slot (hdd 1 _ 61 rfl rfl rfl)
      have i1 : (p : Int) < (k : Int) := by omega
      refine yes (want_n rfl) ?_
      have hv := hid (hK (.pointer (some ⟨g, p * 17, none⟩)) w1 (fun _ => rfl) (fun L2 V2 i1 i2 i3 i4 => hW.same (i2 11 (by decide)) (i2 12 (by decide))))
      clear hK hW hL hup hdd hk hcl
      go_simp
      exact kq hv.out rfl
    · intro ac w1 L hL hup hcl hW hdd hk Kx hK
      refine yes (want_n rfl) (wp_load_mid 42 _ rfl g (p * 17) (hdd 2 _ 62 rfl rfl rfl) (jc J) _ (range_below hJ.out hW.1) Try.underlying42 rfl (by kernel_rfl) ?_)
      exact hK _ _ (fun _ => rfl) (fun L2 V2 i1 i2 i3 i4 => hW.same (i2 11 (by decide)) (i2 12 (by decide)))
    · intro ac w1 L hL hup hcl hW hdd hk Kx hK
      refine yes (want_n rfl) (wp_mv _ rfl _ (get_keep (hk 2 (no_dst (by kernel_rfl))) rfl) ?_)
      exact hK _ _ (fun _ => rfl) (fun L2 V2 i1 i2 i3 i4 => hW.same (i2 11 (by decide)) (i2 12 (by decide)))
    · intro ac w1 L hL hup hcl hW hdd hk Kx hK
      refine yes (want_n rfl) (wp_mv _ rfl _ (get_keep (hk 10 (no_dst (by kernel_rfl))) rfl) ?_)
      exact hK _ _ (fun _ => rfl) (fun L2 V2 i1 i2 i3 i4 => hW.same (i2 11 (by decide)) (i2 12 (by decide)))
    · intro ac w1 L hL hup hcl hW hdd hk Kx hK
      have e64 : ac.tmps[64]?.getD undef = (.slice (some ⟨b, o, none⟩) m cm : Value) := slot (hdd 4 _ 64 rfl rfl rfl)
      have e65 : ac.tmps[65]?.getD undef = (.int .i64 (i : Int) : Value) := slot (hdd 5 _ 65 rfl rfl rfl)
      have i1 : (i : Int) < (m : Int) := by omega
      refine yes (want_n rfl) ?_
      have hv := hid (hK (.pointer (some ⟨b, o + i * 2, none⟩)) w1 (fun _ => rfl) (fun L2 V2 i1 i2 i3 i4 => hW.same (i2 11 (by decide)) (i2 12 (by decide))))
      clear hK hW hL hup hdd hk hcl
      go_simp
      exact kq hv.out rfl
    · intro ac w1 L hL hup hcl hW hdd hk Kx hK
      have e66 : ac.tmps[66]?.getD undef = (.pointer (some ⟨b, o + i * 2, none⟩) : Value) := slot (hdd 6 _ 66 rfl rfl rfl)
      refine yes (want_n rfl) ?_
      have hv := hid (hK (.pointer (some ⟨b, o + i * 2 + 1, none⟩)) w1 (fun _ => rfl) (fun L2 V2 i1 i2 i3 i4 => hW.same (i2 11 (by decide)) (i2 12 (by decide))))
      clear hK hW hL hup hdd hk hcl
      go_simp
      exact kq hv.out rfl
    · intro ac w1 L hL hup hcl hW hdd hk Kx hK
      have e67 : ac.tmps[67]?.getD undef = (.pointer (some ⟨b, o + i * 2 + 1, none⟩) : Value) := slot (hdd 7 _ 67 rfl rfl rfl)
      have x0 := stay hW.1 hy.out
      refine yes (want_n rfl) ?_
      have hv := hid (hK (.int .i64 y) w1 (fun _ => rfl) (fun L2 V2 i1 i2 i3 i4 => hW.same (i2 11 (by decide)) (i2 12 (by decide))))
      clear hK hW hL hup hdd hk hcl
      go_simp
      exact kq hv.out rfl
    · intro ac w1 L hL hup hcl hW hdd hk Kx hK
      refine yes (want_n rfl) (wp_callv 17 _ _ rfl _ Try.func17 rfl rfl _ (args2 (hdd 8 _ 68 rfl rfl rfl) rfl) (pick_any y 10 w1 (by decide) (by decide)) ?_)
      rintro e w2 ⟨⟨q, hq, rfl⟩, rfl⟩
      exact ⟨_, rfl, hK _ _ (fun _ => ⟨q, hq, rfl⟩) (fun L2 V2 i1 i2 i3 i4 => hW.same (i2 11 (by decide)) (i2 12 (by decide)))⟩
    · intro ac w1 L hL hup hcl hW hdd hk Kx hK
      obtain ⟨q, hq, eq⟩ := hdd 9 _ 69 rfl rfl rfl
      have e69 : ac.tmps[69]?.getD undef = (.int .i64 (q : Int) : Value) := slot eq
      have hv := hid (hK (.int .u8 (q : Int)) w1 (fun _ => ⟨q, hq, rfl⟩) (fun L2 V2 i1 i2 i3 i4 => hW.same (i2 11 (by decide)) (i2 12 (by decide))))
      have hq2 : IntKind.u8.wrap (q : Int) = (q : Int) := by simp [IntKind.wrap, IntKind.bits, IntKind.signed]; omega
      refine yes (want_n rfl) ?_
      clear hK hW hL hup hdd hk hcl
      go_simp
      exact kq hv.out rfl
    · intro ac w1 L hL hup hcl hW hdd hk Kx hK
      have h12 : L 12 = false := not_yet hcl 2 (j := 11) (by kernel_rfl) hL
      have hsz := hW.2.1 hL
      have hv := hid (hK (.pointer (some ⟨w.heap.size, 0, none⟩)) (w1.alloc (.cells zJ 42)) (fun _ => rfl) (fun L2 V2 i1 i2 i3 i4 => hW.new hL i1 (by rw [i2 12 (by decide)]; exact h12)))
      refine yes (want_n rfl) ?_
      clear hK hW hL hup hdd hk hcl
      go_simp
      exact hv.out
    · intro ac w1 L hL hup hcl hW hdd hk Kx hK
      have h11 : L 11 = true := hup _ (List.mem_cons_self ..) rfl
      have hrow := hW.2.2 h11
      rw [if_neg (by rw [hL]; decide)] at hrow
      refine yes (want_n rfl) (wp_store_row 42 _ _ rfl w.heap.size (jc J).toArray (hdd 11 _ 12 rfl rfl rfl) (hdd 3 _ 63 rfl rfl rfl) 42 zJ hrow (by kernel_rfl) rfl (jc_all J) ?_)
      exact hK _ _ (fun h => absurd rfl h) (fun L2 V2 i1 i2 i3 i4 => hW.put h11 hL (by rw [i2 11 (by decide)]; exact h11) i1)
    · intro ac w1 L hL hup hcl hW hdd hk Kx hK
      refine yes (want_n rfl) (wp_as _ rfl _ rfl ?_)
      obtain ⟨q, hq, eq⟩ := hdd 10 _ 70 rfl rfl rfl
      exact hK _ _ (fun _ => ⟨q, hq, eq⟩) (fun L2 V2 i1 i2 i3 i4 => hW.same (i2 11 (by decide)) (i2 12 (by decide)))
  · intro ac w1 hdf hsz hkp hval hW
    obtain ⟨L, hall, hW⟩ := hW
    have hrow := hW.2.2 (hall 11 (by decide))
    rw [if_pos (hall 12 (by decide))] at hrow
    have hB := hW.1
    have hlt := (Array.getElem?_eq_some_iff.1 hrow).1
    obtain ⟨q, hq, eq⟩ := hval 13 _ 13 rfl rfl
    obtain ⟨ff, hf⟩ : ∃ ff, ff = fun d => ac.tmps.getD d undef := ⟨_, rfl⟩
    have h12 : ff 12 = .pointer (some ⟨w.heap.size, 0, none⟩) := by rw [hf]; exact hval 11 _ 12 rfl rfl
    have h13 : ff 13 = .int .u8 (q : Int) := by rw [hf]; exact eq
    have hfa := act_filled hdf hsz hkp
    rw [← hf] at hfa
    rw [hfa]
    clear hdf hsz hkp hval hfa hf hW eq
    clear ac
    simp only [fillAll, List.set_cons_zero, List.set_cons_succ, h12, h13]
    exact hQ.out _ _ _ _ _ _ _ _ _ _ _ q w1 hq hB hlt hrow
end Go.Proofs.Ytphkdjacladcpaa
