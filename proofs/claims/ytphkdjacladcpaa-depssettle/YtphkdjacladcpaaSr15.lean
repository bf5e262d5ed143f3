/- A job begins, and takes the place of the answer: the drawn region. -/
import Derived.Test.YtphkdjacladcpaaJoP
import Derived.Test.YtphkdjacladcpaaAw7
import Derived.Test.YtphkdjacladcpaaDrawAlv
namespace Go.Proofs.Ytphkdjacladcpaa
open Go.RowKit
set_option linter.unusedVariables false
set_option linter.unusedSimpArgs false

/-- What Begin told. -/
structure WW (w : World) (gb : Nat) (D : List Dp) (J1 : Job) (E : Int) (L : Nat → Bool) (V : Nat → Value) (w1 W : World) (X : Job) : Prop where
  bel : Below w.heap.size w W
  no : L 15 = false → w1 = W
  yes : L 15 = true → w1 = W.setRow gb (jc X).toArray
  v : L 11 = true → V 11 = .tuple #[.agg (jc X).toArray, .int .i64 E]
  g : L 11 = true → E = 0 → ∃ x y, X = J1.re x y ∧ J1.s.dn ≤ y ∧ DOwn W w.heap.size (.slice x J1.s.dn y) D
  a : L 12 = true → V 12 = .tuple #[.agg (jc X).toArray, .int .i64 E]
  b : L 13 = true → V 13 = .agg (jc X).toArray
def Wd15 (w : World) (gb : Nat) (D : List Dp) (J1 : Job) (E : Int) (L : Nat → Bool) (V : Nat → Value) (w1 : World) : Prop := ∃ W X, WW w gb D J1 E L V w1 W X
section
variable {w w1 W : World} {gb : Nat} {D : List Dp} {J1 : Job} {E : Int} {L L2 : Nat → Bool} {V V2 : Nat → Value} {X : Job}
theorem WW.same (h : WW w gb D J1 E L V w1 W X) (h1 : L2 11 = L 11) (h2 : L2 12 = L 12) (h3 : L2 13 = L 13) (h5 : L2 15 = L 15) (v1 : V2 11 = V 11) (v2 : V2 12 = V 12) (v3 : V2 13 = V 13) : Wd15 w gb D J1 E L2 V2 w1 :=
  ⟨W, X, h.bel, by rw [h5]; exact h.no, by rw [h5]; exact h.yes, by rw [h1, v1]; exact h.v, by rw [h1]; exact h.g, by rw [h2, v2]; exact h.a, by rw [h3, v3]; exact h.b⟩
theorem WW.row (h : WW w gb D J1 E L V w1 W X) {ga : Nat} {o : Obj} (hr : w.heap[ga]? = some o) (hga : ga < w.heap.size) (hne : ga ≠ gb) : w1.heap[ga]? = some o := by
  cases h5 : L 15 with
  | false => rw [h.no h5, h.bel.block _ hga]; exact hr
  | true => rw [h.yes h5, setRow_other _ _ _ hne, h.bel.block _ hga]; exact hr
theorem WW.call {w2 : World} (hb : Below w.heap.size w w2) (v1 : V2 11 = .tuple #[.agg (jc X).toArray, .int .i64 E]) (h2 : L2 12 = false) (h3 : L2 13 = false) (h5 : L2 15 = false) (hg : E = 0 → ∃ x y, X = J1.re x y ∧ J1.s.dn ≤ y ∧ DOwn w2 w.heap.size (.slice x J1.s.dn y) D) : Wd15 w gb D J1 E L2 V2 w2 :=
  ⟨w2, X, hb, fun _ => rfl, (fun e => by rw [h5] at e; cases e), fun _ => v1, fun _ => hg, (fun e => by rw [h2] at e; cases e), (fun e => by rw [h3] at e; cases e)⟩
theorem WW.move (h : WW w gb D J1 E L V w1 W X) (h1 : L2 11 = L 11) (v2 : V2 12 = .tuple #[.agg (jc X).toArray, .int .i64 E]) (h3 : L2 13 = L 13) (h5 : L2 15 = L 15) (v1 : V2 11 = V 11) (v3 : V2 13 = V 13) : Wd15 w gb D J1 E L2 V2 w1 :=
  ⟨W, X, h.bel, by rw [h5]; exact h.no, by rw [h5]; exact h.yes, by rw [h1, v1]; exact h.v, by rw [h1]; exact h.g, fun _ => v2, by rw [h3, v3]; exact h.b⟩
theorem WW.first (h : WW w gb D J1 E L V w1 W X) (h1 : L2 11 = L 11) (h2 : L2 12 = L 12) (v3 : V2 13 = .agg (jc X).toArray) (h5 : L2 15 = L 15) (v1 : V2 11 = V 11) (v2 : V2 12 = V 12) : Wd15 w gb D J1 E L2 V2 w1 :=
  ⟨W, X, h.bel, by rw [h5]; exact h.no, by rw [h5]; exact h.yes, by rw [h1, v1]; exact h.v, by rw [h1]; exact h.g, by rw [h2, v2]; exact h.a, fun _ => v3⟩
theorem WW.put (h : WW w gb D J1 E L V w1 W X) (hL : L 15 = false) (h1 : L2 11 = L 11) (h2 : L2 12 = L 12) (h3 : L2 13 = L 13) (h5 : L2 15 = true) (v1 : V2 11 = V 11) (v2 : V2 12 = V 12) (v3 : V2 13 = V 13) : Wd15 w gb D J1 E L2 V2 (w1.setRow gb (jc X).toArray) :=
  ⟨W, X, h.bel, (fun e => by rw [h5] at e; cases e), fun _ => by rw [h.no hL], by rw [h1, v1]; exact h.v, by rw [h1]; exact h.g, by rw [h2, v2]; exact h.a, by rw [h3, v3]; exact h.b⟩
end

def pv15 (J : Job) (ga : Nat) (S P2 : Nat) (A NW E : Int) : Nat → Value → Prop
  | 0, v => v = .agg (jc J).toArray
  | 1, v => v = .pointer (some ⟨ga, 3, none⟩)
  | 2, v => v = .pointer (some ⟨ga, 7, none⟩)
  | 3, v => v = .int .i64 J.s.nodes
  | 4, v => v = .int .i64 A
  | 5, v => v = .int .i64 (S : Int)
  | 6, v => v = .int .u32 (P2 : Int)
  | 7, v => v = .int .u32 ((P2 : Int) - 1)
  | 8, v => v = .pointer (some ⟨ga, 12, none⟩)
  | 9, v => v = .int .i64 J.sub
  | 10, v => v = .int .i64 NW
  | 11, v => True
  | 12, v => True
  | 13, v => True
  | 14, v => v = .int .i64 E
  | 15, v => True
  | 16, v => v = .int .i64 E
  | _, _ => True

set_option maxRecDepth 100000 in
set_option maxHeartbeats 4000000 in
theorem set_r15 {FF : Act → World → Prop} {w : World} {ga gb S P2 : Nat} {A NW : Int} {J J1 : Job} {D : List Dp} {E : Int} {old : Array Value} {c0 c1 c2 c3 c4 c5 c6 c7 c8 c9 c10 c11 c13 c15 c16 c17 c18 c19 c20 c21 c22 c23 c24 c25 c26 c27 c28 c29 c30 c31 c32 c33 c34 c35 c36 c37 c38 c39 c40 c41 c42 c43 c44 c45 c46 c47 c48 c49 c50 c51 c52 c53 c54 c55 c56 c57 c58 c59 c60 c61 c62 c63 c64 c65 c66 c67 c68 c69 c70 c71 c72 c73 c74 c75 c76 c77 c78 c79 c80 c81 c82 c83 c84 c85 c86 c87 c88 c89 c90 c91 c92 c93 c94 c95 c96 c97 c98 c99 c100 c101 c102 c103 c104 c105 c106 c107 c108 c109 c110 c111 c112 c113 c114 c115 c116 c117 c118 c119 c120 : Value}
    (hrow : Hid (w.heap[ga]? = some (.cells (jc J).toArray 42 (0, 0)))) (hga : ga < w.heap.size) (hrow2 : Hid (w.heap[gb]? = some (.cells old 42 (0, 0)))) (hgb : gb < w.heap.size) (hold : Hid (old.size = 17)) (hne : ga ≠ gb)
    (hA : Hid ((if 31 < J.s.nodes then 31 else J.s.nodes) = A)) (hS : Hid ((if 0 < A then A else 0) = (S : Int))) (hP : Hid (IntKind.u32.wrap (2 ^ min S 32) = (P2 : Int))) (hP2 : Hid (IntKind.u32.wrap ((P2 : Int) - 1) = (P2 : Int) - 1)) (hNW : Hid ((if J.sub < 0 then 0 else J.sub) = NW))
    (hcall : Hid (∀ W, Below w.heap.size w W → Calls Try.prog 19 #[.agg (jc J).toArray, .int .u32 ((P2 : Int) - 1), .int .i64 NW] W fun e w' => BT (W.heap.size + 1 + 1) E J1 D e w' ∧ Below W.heap.size W w'))
    (hQ : Hid (∀ (d79 d80 d81 d82 d83 d84 d85 d86 d87 d88 d89 d90 d91 d92 d93 : Value) (X : Job) (W : World), Below w.heap.size w W → (E = 0 → ∃ x y, X = J1.re x y ∧ J1.s.dn ≤ y ∧ DOwn W w.heap.size (.slice x J1.s.dn y) D) → FF ⟨#[c0, c1, c2, c3, c4, c5, c6, c7, c8, c9, c10, c11, .pointer (some ⟨ga, 0, none⟩), c13, .pointer (some ⟨gb, 0, none⟩), .int .i64 E, c16, c17, c18, c19, c20, c21, c22, c23, c24, c25, c26, c27, c28, c29, c30, c31, c32, c33, c34, c35, c36, c37, c38, c39, c40, c41, c42, c43, c44, c45, c46, c47, c48, c49, c50, c51, c52, c53, c54, c55, c56, c57, c58, c59, c60, c61, c62, c63, c64, c65, c66, c67, c68, c69, c70, c71, c72, c73, c74, c75, c76, c77, c78, d79, d80, d81, d82, d83, d84, d85, d86, d87, d88, d89, d90, d91, d92, d93, c94, c95, c96, c97, c98, c99, c100, c101, c102, c103, c104, c105, c106, c107, c108, c109, c110, c111, c112, c113, c114, c115, c116, c117, c118, c119, c120], []⟩ (W.setRow gb (jc X).toArray))) :
    Code.wp Try.prog ((Try.f4.body.bind (regAt 15)).getD .skip) (Nrm FF) ⟨#[c0, c1, c2, c3, c4, c5, c6, c7, c8, c9, c10, c11, .pointer (some ⟨ga, 0, none⟩), c13, .pointer (some ⟨gb, 0, none⟩), c15, c16, c17, c18, c19, c20, c21, c22, c23, c24, c25, c26, c27, c28, c29, c30, c31, c32, c33, c34, c35, c36, c37, c38, c39, c40, c41, c42, c43, c44, c45, c46, c47, c48, c49, c50, c51, c52, c53, c54, c55, c56, c57, c58, c59, c60, c61, c62, c63, c64, c65, c66, c67, c68, c69, c70, c71, c72, c73, c74, c75, c76, c77, c78, c79, c80, c81, c82, c83, c84, c85, c86, c87, c88, c89, c90, c91, c92, c93, c94, c95, c96, c97, c98, c99, c100, c101, c102, c103, c104, c105, c106, c107, c108, c109, c110, c111, c112, c113, c114, c115, c116, c117, c118, c119, c120], []⟩ w := by
  conv => arg 2; whnf
  refine wp_region_alv (Wd := Wd15 w gb D J1 E) (Pv := pv15 J ga S P2 A NW E) (by kernel_rfl) (by kernel_rfl) ?_ ?_ ?_
  · intro L V2 hL
    exact ⟨_, job0, drew_below w, fun _ => rfl, (fun h => by rw [hL 15] at h; cases h), (fun h => by rw [hL 11] at h; cases h), (fun h => by rw [hL 11] at h; cases h), (fun h => by rw [hL 12] at h; cases h), (fun h => by rw [hL 13] at h; cases h)⟩
  · refine ⟨?_, ?_, ?_, ?_, ?_, ?_, ?_, ?_, ?_, ?_, ?_, ?_, ?_, ?_, ?_, ?_, ?_, trivial⟩
    · intro ac w1 L hL hup hcl hW hdd hk Kx hK
      refine yes (want_n rfl) (wp_load_row 42 _ rfl ga (get_keep (hk 12 (no_dst (by kernel_rfl))) rfl) 42 (jc J).toArray (0, 0) _ (by obtain ⟨W, X, hX⟩ := hW; exact hX.row hrow.out hga hne) Try.underlying42 rfl (by kernel_rfl) ?_)
      exact hK _ _ (fun _ => rfl) (fun L2 V2 i1 i2 i3 i4 => by obtain ⟨W, X, hX⟩ := hW; exact hX.same (i2 11 (by decide)) (i2 12 (by decide)) (i2 13 (by decide)) (i2 15 (by decide)) (i4 11 (by decide)) (i4 12 (by decide)) (i4 13 (by decide)))
    · intro ac w1 L hL hup hcl hW hdd hk Kx hK
      have e12 : ac.tmps[12]?.getD undef = (.pointer (some ⟨ga, 0, none⟩) : Value) := slot (get_keep (hk 12 (no_dst (by kernel_rfl))) rfl)
      refine yes (want_n rfl) ?_
      have hv := hid (hK (.pointer (some ⟨ga, 3, none⟩)) w1 (fun _ => rfl) (fun L2 V2 i1 i2 i3 i4 => by obtain ⟨W, X, hX⟩ := hW; exact hX.same (i2 11 (by decide)) (i2 12 (by decide)) (i2 13 (by decide)) (i2 15 (by decide)) (i4 11 (by decide)) (i4 12 (by decide)) (i4 13 (by decide))))
      clear hK hW hL hup hdd hk hcl
      go_simp
      exact kq hv.out rfl
    · intro ac w1 L hL hup hcl hW hdd hk Kx hK
      have e81 : ac.tmps[81]?.getD undef = (.pointer (some ⟨ga, 3, none⟩) : Value) := slot (hdd 1 _ 81 rfl rfl rfl)
      refine yes (want_n rfl) ?_
      have hv := hid (hK (.pointer (some ⟨ga, 7, none⟩)) w1 (fun _ => rfl) (fun L2 V2 i1 i2 i3 i4 => by obtain ⟨W, X, hX⟩ := hW; exact hX.same (i2 11 (by decide)) (i2 12 (by decide)) (i2 13 (by decide)) (i2 15 (by decide)) (i4 11 (by decide)) (i4 12 (by decide)) (i4 13 (by decide))))
      clear hK hW hL hup hdd hk hcl
      go_simp
      exact kq hv.out rfl
    · intro ac w1 L hL hup hcl hW hdd hk Kx hK
      have e82 : ac.tmps[82]?.getD undef = (.pointer (some ⟨ga, 7, none⟩) : Value) := slot (hdd 2 _ 82 rfl rfl rfl)
      have x0 := row_cell (by obtain ⟨W, X, hX⟩ := hW; exact hX.row hrow.out hga hne) 7 (.int .i64 J.s.nodes) rfl
      refine yes (want_n rfl) ?_
      have hv := hid (hK (.int .i64 J.s.nodes) w1 (fun _ => rfl) (fun L2 V2 i1 i2 i3 i4 => by obtain ⟨W, X, hX⟩ := hW; exact hX.same (i2 11 (by decide)) (i2 12 (by decide)) (i2 13 (by decide)) (i2 15 (by decide)) (i4 11 (by decide)) (i4 12 (by decide)) (i4 13 (by decide))))
      clear hK hW hL hup hdd hk hcl
      go_simp
      exact kq hv.out rfl
    · intro ac w1 L hL hup hcl hW hdd hk Kx hK
      have e83 : ac.tmps[83]?.getD undef = (.int .i64 J.s.nodes : Value) := slot (hdd 3 _ 83 rfl rfl rfl)
      refine yes (want_n rfl) ?_
      have hv := hid (hK (.int .i64 A) w1 (fun _ => rfl) (fun L2 V2 i1 i2 i3 i4 => by obtain ⟨W, X, hX⟩ := hW; exact hX.same (i2 11 (by decide)) (i2 12 (by decide)) (i2 13 (by decide)) (i2 15 (by decide)) (i4 11 (by decide)) (i4 12 (by decide)) (i4 13 (by decide))))
      clear hK hW hL hup hdd hk hcl
      go_simp
      exact kq hv.out (by rw [hA.out])
    · intro ac w1 L hL hup hcl hW hdd hk Kx hK
      have e84 : ac.tmps[84]?.getD undef = (.int .i64 A : Value) := slot (hdd 4 _ 84 rfl rfl rfl)
      refine yes (want_n rfl) ?_
      have hv := hid (hK (.int .i64 (S : Int)) w1 (fun _ => rfl) (fun L2 V2 i1 i2 i3 i4 => by obtain ⟨W, X, hX⟩ := hW; exact hX.same (i2 11 (by decide)) (i2 12 (by decide)) (i2 13 (by decide)) (i2 15 (by decide)) (i4 11 (by decide)) (i4 12 (by decide)) (i4 13 (by decide))))
      clear hK hW hL hup hdd hk hcl
      go_simp
      exact kq hv.out (by rw [hS.out])
    · intro ac w1 L hL hup hcl hW hdd hk Kx hK
      have e85 : ac.tmps[85]?.getD undef = (.int .i64 (S : Int) : Value) := slot (hdd 5 _ 85 rfl rfl rfl)
      refine yes (want_n rfl) ?_
      have hv := hid (hK (.int .u32 (P2 : Int)) w1 (fun _ => rfl) (fun L2 V2 i1 i2 i3 i4 => by obtain ⟨W, X, hX⟩ := hW; exact hX.same (i2 11 (by decide)) (i2 12 (by decide)) (i2 13 (by decide)) (i2 15 (by decide)) (i4 11 (by decide)) (i4 12 (by decide)) (i4 13 (by decide))))
      clear hK hW hL hup hdd hk hcl
      go_simp
      exact kq hv.out (by rw [hP.out])
    · intro ac w1 L hL hup hcl hW hdd hk Kx hK
      have e86 : ac.tmps[86]?.getD undef = (.int .u32 (P2 : Int) : Value) := slot (hdd 6 _ 86 rfl rfl rfl)
      refine yes (want_n rfl) ?_
      have hv := hid (hK (.int .u32 ((P2 : Int) - 1)) w1 (fun _ => rfl) (fun L2 V2 i1 i2 i3 i4 => by obtain ⟨W, X, hX⟩ := hW; exact hX.same (i2 11 (by decide)) (i2 12 (by decide)) (i2 13 (by decide)) (i2 15 (by decide)) (i4 11 (by decide)) (i4 12 (by decide)) (i4 13 (by decide))))
      clear hK hW hL hup hdd hk hcl
      go_simp
      exact kq hv.out (by rw [hP2.out])
    · intro ac w1 L hL hup hcl hW hdd hk Kx hK
      have e12 : ac.tmps[12]?.getD undef = (.pointer (some ⟨ga, 0, none⟩) : Value) := slot (get_keep (hk 12 (no_dst (by kernel_rfl))) rfl)
      refine yes (want_n rfl) ?_
      have hv := hid (hK (.pointer (some ⟨ga, 12, none⟩)) w1 (fun _ => rfl) (fun L2 V2 i1 i2 i3 i4 => by obtain ⟨W, X, hX⟩ := hW; exact hX.same (i2 11 (by decide)) (i2 12 (by decide)) (i2 13 (by decide)) (i2 15 (by decide)) (i4 11 (by decide)) (i4 12 (by decide)) (i4 13 (by decide))))
      clear hK hW hL hup hdd hk hcl
      go_simp
      exact kq hv.out rfl
    · intro ac w1 L hL hup hcl hW hdd hk Kx hK
      have e88 : ac.tmps[88]?.getD undef = (.pointer (some ⟨ga, 12, none⟩) : Value) := slot (hdd 8 _ 88 rfl rfl rfl)
      have x0 := row_cell (by obtain ⟨W, X, hX⟩ := hW; exact hX.row hrow.out hga hne) 12 (.int .i64 J.sub) rfl
      refine yes (want_n rfl) ?_
      have hv := hid (hK (.int .i64 J.sub) w1 (fun _ => rfl) (fun L2 V2 i1 i2 i3 i4 => by obtain ⟨W, X, hX⟩ := hW; exact hX.same (i2 11 (by decide)) (i2 12 (by decide)) (i2 13 (by decide)) (i2 15 (by decide)) (i4 11 (by decide)) (i4 12 (by decide)) (i4 13 (by decide))))
      clear hK hW hL hup hdd hk hcl
      go_simp
      exact kq hv.out rfl
    · intro ac w1 L hL hup hcl hW hdd hk Kx hK
      have e89 : ac.tmps[89]?.getD undef = (.int .i64 J.sub : Value) := slot (hdd 9 _ 89 rfl rfl rfl)
      refine yes (want_n rfl) ?_
      have hv := hid (hK (.int .i64 NW) w1 (fun _ => rfl) (fun L2 V2 i1 i2 i3 i4 => by obtain ⟨W, X, hX⟩ := hW; exact hX.same (i2 11 (by decide)) (i2 12 (by decide)) (i2 13 (by decide)) (i2 15 (by decide)) (i4 11 (by decide)) (i4 12 (by decide)) (i4 13 (by decide))))
      clear hK hW hL hup hdd hk hcl
      go_simp
      exact kq hv.out (by rw [hNW.out])
    · intro ac w1 L hL hup hcl hW hdd hk Kx hK
      have h15 : L 15 = false := not_yet hcl 6 (j := 11) (by kernel_rfl) hL
      have h12 : L 12 = false := not_yet hcl 3 (j := 11) (by kernel_rfl) hL
      have h13 : L 13 = false := not_yet hcl 4 (j := 11) (by kernel_rfl) hL
      obtain ⟨W, X, hX⟩ := hW
      have hbw := hX.bel
      have hw1 := hX.no h15
      subst hw1
      clear hX
      refine yes (want_n rfl) (wp_callv 19 _ _ rfl _ Try.func19 rfl rfl _ (args3 (hdd 0 _ 80 rfl rfl rfl) (hdd 7 _ 87 rfl rfl rfl) (hdd 10 _ 90 rfl rfl rfl)) (hcall.out w1 hbw) ?_)
      rintro e w2 ⟨hBT, hb2⟩
      have hsz := hbw.size
      rcases hBT with ⟨rfl, x, yy, rfl, hy, ho⟩ | ⟨hE, rfl⟩
      · exact ⟨_, rfl, hK _ _ (fun _ => trivial) (fun L2 V2 i1 i2 i3 i4 => WW.call (L2 := L2) (V2 := V2) (bnext hbw hb2) (i3 (fun h => by cases h)) (by rw [i2 12 (by decide)]; exact h12) (by rw [i2 13 (by decide)]; exact h13) (by rw [i2 15 (by decide)]; exact h15) (fun _ => ⟨x, yy, rfl, hy, owns_low ho (by omega)⟩))⟩
      · exact ⟨_, rfl, hK _ _ (fun _ => trivial) (fun L2 V2 i1 i2 i3 i4 => WW.call (L2 := L2) (V2 := V2) (bnext hbw hb2) (i3 (fun h => by cases h)) (by rw [i2 12 (by decide)]; exact h12) (by rw [i2 13 (by decide)]; exact h13) (by rw [i2 15 (by decide)]; exact h15) (fun h => absurd h hE))⟩
    · intro ac w1 L hL hup hcl hW hdd hk Kx hK
      have h11 : L 11 = true := hup _ (List.mem_cons_self ..) rfl
      obtain ⟨W, X, hX⟩ := hW
      have e91 : ac.tmps.getD 91 undef = .tuple #[.agg (jc X).toArray, .int .i64 E] := hX.v h11
      refine yes (want_n rfl) (wp_mv _ rfl _ e91 ?_)
      exact hK _ _ (fun _ => trivial) (fun L2 V2 i1 i2 i3 i4 => hX.move (i2 11 (by decide)) (i3 (fun h => by cases h)) (i2 13 (by decide)) (i2 15 (by decide)) (i4 11 (by decide)) (i4 13 (by decide)))
    · intro ac w1 L hL hup hcl hW hdd hk Kx hK
      have h12 : L 12 = true := hup _ (List.mem_cons_self ..) rfl
      have h11 : L 11 = true := needs_up hcl 2 12 11 (by kernel_rfl) h12
      obtain ⟨W, X, hX⟩ := hW
      have e79 : ac.tmps[79]?.getD undef = .tuple #[.agg (jc X).toArray, .int .i64 E] := slot (hX.a h12)
      refine yes (want_n rfl) ?_
      have hv := hid (hK (.agg (jc X).toArray) w1 (fun _ => trivial) (fun L2 V2 i1 i2 i3 i4 => hX.first (i2 11 (by decide)) (i2 12 (by decide)) (i3 (fun h => by cases h)) (i2 15 (by decide)) (i4 11 (by decide)) (i4 12 (by decide))))
      clear hK hL hup hdd hk hcl hX
      go_simp
      exact kq hv.out rfl
    · intro ac w1 L hL hup hcl hW hdd hk Kx hK
      have h12 : L 12 = true := hup _ (List.mem_cons_self ..) rfl
      have h11 : L 11 = true := needs_up hcl 2 12 11 (by kernel_rfl) h12
      obtain ⟨W, X, hX⟩ := hW
      have e79 : ac.tmps[79]?.getD undef = .tuple #[.agg (jc X).toArray, .int .i64 E] := slot (hX.a h12)
      refine yes (want_n rfl) ?_
      have hv := hid (hK (.int .i64 E) w1 (fun _ => rfl) (fun L2 V2 i1 i2 i3 i4 => hX.same (i2 11 (by decide)) (i2 12 (by decide)) (i2 13 (by decide)) (i2 15 (by decide)) (i4 11 (by decide)) (i4 12 (by decide)) (i4 13 (by decide))))
      clear hK hL hup hdd hk hcl hX
      go_simp
      exact kq hv.out rfl
    · intro ac w1 L hL hup hcl hW hdd hk Kx hK
      have h13 : L 13 = true := hup _ (List.mem_cons_self ..) rfl
      have h12 : L 12 = true := needs_up hcl 2 13 12 (by kernel_rfl) h13
      have h11 : L 11 = true := needs_up hcl 2 12 11 (by kernel_rfl) h12
      obtain ⟨W, X, hX⟩ := hW
      have e92 : ac.tmps.getD 92 undef = .agg (jc X).toArray := hX.b h13
      have hbw := hX.bel
      have hw1 := hX.no hL
      refine yes (want_n rfl) (wp_store_row 42 _ _ rfl gb (jc X).toArray (get_keep (hk 14 (no_dst (by kernel_rfl))) rfl) e92 42 old (by rw [hw1, hbw.block _ hgb]; exact hrow2.out) (by kernel_rfl) (by rw [hold.out]; rfl) (jc_all X) ?_)
      exact hK _ _ (fun h => absurd rfl h) (fun L2 V2 i1 i2 i3 i4 => hX.put hL (i2 11 (by decide)) (i2 12 (by decide)) (i2 13 (by decide)) i1 (i4 11 (by decide)) (i4 12 (by decide)) (i4 13 (by decide)))
    · intro ac w1 L hL hup hcl hW hdd hk Kx hK
      refine yes (want_n rfl) (wp_as _ rfl _ (hdd 14 _ 93 rfl rfl rfl) ?_)
      exact hK _ _ (fun _ => rfl) (fun L2 V2 i1 i2 i3 i4 => by obtain ⟨W, X, hX⟩ := hW; exact hX.same (i2 11 (by decide)) (i2 12 (by decide)) (i2 13 (by decide)) (i2 15 (by decide)) (i4 11 (by decide)) (i4 12 (by decide)) (i4 13 (by decide)))
  · intro ac w1 hdf hsz hkp hval hW
    obtain ⟨L, hall, W, X, hX⟩ := hW
    have hB := hX.bel
    have hg := hX.g (hall 11 (by decide))
    have hw1 := hX.yes (hall 15 (by decide))
    subst hw1
    obtain ⟨ff, hf⟩ : ∃ ff, ff = fun d => ac.tmps.getD d undef := ⟨_, rfl⟩
    have h15 : ff 15 = .int .i64 E := by rw [hf]; exact hval 16 _ 15 rfl rfl
    have hfa := act_filled hdf hsz hkp
    rw [← hf] at hfa
    rw [hfa]
    clear hdf hsz hkp hval hfa hf hX
    clear ac
    simp only [fillAll, List.set_cons_zero, List.set_cons_succ, h15]
    exact hQ.out _ _ _ _ _ _ _ _ _ _ _ _ _ _ _ X W hB hg
end Go.Proofs.Ytphkdjacladcpaa
