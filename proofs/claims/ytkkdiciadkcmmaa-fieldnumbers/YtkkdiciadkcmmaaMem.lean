/- Fields in memory: where their cells, their numbers and their texts lie; rows of the call's own, and append onto them. -/
import Derived.Test.YtkkdiciadkcmmaaOct
import Derived.Test.YtkkdiciadkcmmaaFlds
import Derived.Maps.AppendAt
namespace Go.Proofs.Ytkkdiciadkcmmaa
open Go.RowKit

/-- These cells lie behind the address a. -/
def CAt (w : World) (a : Option Addr) (cs : List Value) : Prop :=
  cs ≠ [] → ∃ b o, a = some ⟨b, o, none⟩ ∧ ∀ i (h : i < cs.length), w.cell? ⟨b, o + i, none⟩ = some cs[i]

theorem CAt.kp {S : Nat → Prop} {w w' : World} {a : Option Addr} {cs : List Value} (h : CAt w a cs) (hk : Kp S w w') (hn : ∀ x, a = some x → ¬ S x.block) : CAt w' a cs := by
  intro hl
  obtain ⟨b, o, rfl, hc⟩ := h hl
  refine ⟨b, o, rfl, fun i hi => ?_⟩
  have h1 := hc i hi
  rw [World.cell?_of_block (w := w) (a := ⟨b, o + i, none⟩) (hk.block b (World.block_lt_of_cell? w _ h1) (hn ⟨b, o, none⟩ rfl))]
  exact h1

theorem CAt.below {w w' : World} {a : Option Addr} {cs : List Value} (h : CAt w a cs) (hb : Below w.heap.size w w') : CAt w' a cs := h.kp (S := fun _ => False) (Kp.of_below hb) (fun _ _ h => h)

theorem CAt.nil (w : World) (a : Option Addr) : CAt w a [] := fun h => absurd rfl h

theorem CAt.lt {w : World} {a : Option Addr} {cs : List Value} (h : CAt w a cs) (hl : cs ≠ []) : ∀ x, a = some x → x.block < w.heap.size := by
  obtain ⟨b, o, rfl, hc⟩ := h hl
  intro x hx
  cases hx
  exact World.block_lt_of_cell? w _ (hc 0 (List.length_pos_iff.2 hl))

/-- As CAt.kp, where the block is told by its number being below n. -/
theorem CAt.low {w w' : World} {n : Nat} {a : Option Addr} {cs : List Value} (h : CAt w a cs) (hb : Below n w w') (hn : ∀ x, a = some x → x.block < n) : CAt w' a cs :=
  h.kp (S := fun k => n ≤ k) (Kp.of_low hb) (fun x hx e => by have := hn x hx; omega)

theorem CAt.src {w : World} {x : Addr} {cs : List Value} (h : CAt w (some x) cs) : ∀ j v, cs[j]? = some v → w.cell? (x.add j) = some v := by
  intro j v hj
  have hjl : j < cs.length := by
    rcases Nat.lt_or_ge j cs.length with h | h
    · exact h
    · simp [List.getElem?_eq_none h] at hj
  obtain ⟨b, q, hx, hc⟩ := h (by intro e; subst e; simp at hjl)
  cases hx
  have hplain : (⟨b, q, none⟩ : Addr).add j = ⟨b, q + j, none⟩ := by unfold Addr.add; split <;> simp_all
  rw [hplain, hc j hjl]
  rw [List.getElem?_eq_getElem hjl] at hj
  exact hj

def nvals (ns : List Int) : List Value := ns.map fun n => Value.int .i64 n
def tvals (ts : List ByteArray) : List Value := ts.map fun s => Value.string s

/-- A field in memory: its values, and where its numbers and texts lie. -/
structure It where
  fd : Fd
  na : Option Addr
  nc : Nat
  ta : Option Addr
  tc : Nat

def It.cells (i : It) : List Value := [.int .u8 (i.fd.tag.toNat : Int), .int .u8 (i.fd.kind.toNat : Int), .int .i64 i.fd.n, .string i.fd.text, .slice i.na i.fd.ns.length i.nc, .slice i.ta i.fd.texts.length i.tc]
def It.val (i : It) : Value := .agg #[.int .u8 (i.fd.tag.toNat : Int), .int .u8 (i.fd.kind.toNat : Int), .int .i64 i.fd.n, .string i.fd.text, .slice i.na i.fd.ns.length i.nc, .slice i.ta i.fd.texts.length i.tc]

def NAt (w : World) (a : Option Addr) (ns : List Int) : Prop := CAt w a (nvals ns)
def TAt (w : World) (a : Option Addr) (ts : List ByteArray) : Prop := CAt w a (tvals ts)

/-- What the field points at. -/
structure ItAt (w : World) (i : It) : Prop where
  ns : NAt w i.na i.fd.ns
  ts : TAt w i.ta i.fd.texts
  fit : Fits i.fd

theorem ItAt.below {w w' : World} {i : It} (h : ItAt w i) (hb : Below w.heap.size w w') : ItAt w' i := ⟨CAt.below h.ns hb, CAt.below h.ts hb, h.fit⟩

/-- Fields behind the address a. -/
def FAt (w : World) (a : Option Addr) (its : List It) : Prop := CAt w a (its.flatMap It.cells) ∧ ∀ i ∈ its, ItAt w i

theorem FAt.below {w w' : World} {a : Option Addr} {its : List It} (h : FAt w a its) (hb : Below w.heap.size w w') : FAt w' a its := ⟨h.1.below hb, fun i hi => (h.2 i hi).below hb⟩

theorem cells_len (its : List It) : (its.flatMap It.cells).length = its.length * 6 := by
  induction its with
  | nil => rfl
  | cons i r ih => simp [List.flatMap_cons, It.cells, ih]; omega

theorem cells_get (its : List It) (j k : Nat) (h : j < its.length) (hk : k < 6) : (its.flatMap It.cells)[j * 6 + k]? = its[j].cells[k]? := by
  induction its generalizing j with
  | nil => simp at h
  | cons i r ih =>
    rw [List.flatMap_cons]
    cases j with
    | zero =>
      rw [Nat.zero_mul, Nat.zero_add, List.getElem?_append_left (by simpa [It.cells] using hk)]
      rfl
    | succ j =>
      have := ih j (by simpa using h)
      rw [List.getElem?_append_right (by simp [It.cells]; omega)]
      simp only [List.getElem_cons_succ]
      rw [← this]
      congr 1
      simp [It.cells]; omega

theorem cells_one (its : List It) : ∀ u ∈ its.flatMap It.cells, u.oneCell' = true := by
  intro u hu
  obtain ⟨i, _, hi⟩ := List.mem_flatMap.1 hu
  simp [It.cells] at hi
  rcases hi with rfl | rfl | rfl | rfl | rfl | rfl <;> rfl

/-- The six cells of a field that lie at one place. -/
structure Six (w : World) (b o : Nat) (i : It) : Prop where
  c0 : w.cell? ⟨b, o, none⟩ = some (.int .u8 (i.fd.tag.toNat : Int))
  c1 : w.cell? ⟨b, o + 1, none⟩ = some (.int .u8 (i.fd.kind.toNat : Int))
  c2 : w.cell? ⟨b, o + 2, none⟩ = some (.int .i64 i.fd.n)
  c3 : w.cell? ⟨b, o + 3, none⟩ = some (.string i.fd.text)
  c4 : w.cell? ⟨b, o + 4, none⟩ = some (.slice i.na i.fd.ns.length i.nc)
  c5 : w.cell? ⟨b, o + 5, none⟩ = some (.slice i.ta i.fd.texts.length i.tc)

theorem FAt.form {w : World} {a : Option Addr} {its : List It} (h : FAt w a its) (hne : its ≠ []) : ∃ b o, a = some ⟨b, o, none⟩ ∧ ∀ j (hj : j < its.length), Six w b (o + j * 6) its[j] := by
  obtain ⟨b, o, rfl, hc⟩ := h.1 (by intro e; have := congrArg List.length e; rw [cells_len, List.length_nil] at this; exact hne (List.eq_nil_of_length_eq_zero (by omega)))
  refine ⟨b, o, rfl, fun j hj => ?_⟩
  have key : ∀ k (hk : k < 6), w.cell? ⟨b, o + j * 6 + k, none⟩ = its[j].cells[k]? := by
    intro k hk
    have hlt : j * 6 + k < (its.flatMap It.cells).length := by rw [cells_len]; omega
    have h1 := hc (j * 6 + k) hlt
    rw [← List.getElem?_eq_getElem hlt, cells_get its j k hj hk] at h1
    rw [Nat.add_assoc]; exact h1
  exact ⟨key 0 (by omega), key 1 (by omega), key 2 (by omega), key 3 (by omega), key 4 (by omega), key 5 (by omega)⟩

theorem nvals_get (ns : List Int) (j : Nat) (h : j < (nvals ns).length) : (nvals ns)[j] = .int .i64 (ns[j]'(by simpa [nvals] using h)) := by simp [nvals]
theorem tvals_get (ts : List ByteArray) (j : Nat) (h : j < (tvals ts).length) : (tvals ts)[j] = .string (ts[j]'(by simpa [tvals] using h)) := by simp [tvals]
theorem nvals_len (ns : List Int) : (nvals ns).length = ns.length := by simp [nvals]
theorem tvals_len (ts : List ByteArray) : (tvals ts).length = ts.length := by simp [tvals]

theorem NAt.form {w : World} {a : Option Addr} {ns : List Int} (h : NAt w a ns) (hne : ns ≠ []) : ∃ b o, a = some ⟨b, o, none⟩ ∧ ∀ j (hj : j < ns.length), w.cell? ⟨b, o + j, none⟩ = some (.int .i64 ns[j]) := by
  obtain ⟨b, o, rfl, hc⟩ := h (by intro e; exact hne (by simpa [nvals] using e))
  refine ⟨b, o, rfl, fun j hj => ?_⟩
  rw [hc j (by rw [nvals_len]; exact hj), nvals_get]

theorem TAt.form {w : World} {a : Option Addr} {ts : List ByteArray} (h : TAt w a ts) (hne : ts ≠ []) : ∃ b o, a = some ⟨b, o, none⟩ ∧ ∀ j (hj : j < ts.length), w.cell? ⟨b, o + j, none⟩ = some (.string ts[j]) := by
  obtain ⟨b, o, rfl, hc⟩ := h (by intro e; exact hne (by simpa [tvals] using e))
  refine ⟨b, o, rfl, fun j hj => ?_⟩
  rw [hc j (by rw [tvals_len]; exact hj), tvals_get]

theorem owns_form {w : World} {base e size n : Nat} {v : Value} {xs : List Value} (h : w.ownsRow base e size v n xs) : ∃ a c, v = .slice a n c ∧ n ≤ c := by
  rcases h.2 with ⟨rfl, hn⟩ | ⟨g, cap, cur, rfl, _, _, hc, _⟩
  · exact ⟨none, 0, by rw [hn], by omega⟩
  · exact ⟨_, cap, rfl, hc⟩

theorem owns_cat {w : World} {base e size n m c : Nat} {a : Option Addr} {xs : List Value} (h : w.ownsRow base e size (.slice a m c) n xs) : CAt w a xs := by
  intro hne
  have hl := h.1
  rcases h.2 with ⟨_, hn⟩ | ⟨g, cap, cur, hv, _, hg, _, _, _, ht⟩
  · subst hn; rw [Nat.zero_mul] at hl; exact absurd (List.eq_nil_of_length_eq_zero hl) hne
  · simp only [Value.slice.injEq] at hv
    obtain ⟨rfl, _, _⟩ := hv
    refine ⟨g, 0, rfl, fun i hi => ?_⟩
    have h1 : (cur.toList.take (n * size))[i]? = some xs[i] := by rw [ht, List.getElem?_eq_getElem hi]
    rw [List.getElem?_take, if_pos (by omega)] at h1
    rw [Nat.zero_add]; simp [World.cell?, hg]; simpa using h1

theorem owns_low {w : World} {base base' e size n : Nat} {v : Value} {xs : List Value} (h : w.ownsRow base e size v n xs) (hb : base' ≤ base) : w.ownsRow base' e size v n xs := by
  refine ⟨h.1, ?_⟩
  rcases h.2 with h1 | ⟨g, cap, cur, h1, h2, h3⟩
  · exact .inl h1
  · exact .inr ⟨g, cap, cur, h1, by omega, h3⟩

theorem owns_below {w w' : World} {base e size n : Nat} {v : Value} {xs : List Value} (h : w.ownsRow base e size v n xs) (hb : Below w.heap.size w w') : w'.ownsRow base e size v n xs := owns_kp h (Kp.of_below (S := fun _ => False) hb) (fun _ _ h => h)

/-- 'append(v, x...)' of any elements: v the call's own. -/
theorem cat_run (w : World) (base t ty e : Nat) (i : TypeInfo) (z : Value) (size bytes : Nat) (ht : Try.prog.underlying t = some (.slice e)) (hi : Try.prog.info? e = some i) (hz : i.zero = some z)
    (hsize : i.size = size) (hby : i.bytes = bytes) (hzs : z.cells.size = size) (hsz : 0 < size) (v : Value) (n : Nat) (xs : List Value) (hown : w.ownsRow base e size v n xs)
    (a : Option Addr) (m c : Nat) (news : List Value) (hl : news.length = m * size) (hat : CAt w a news) (h1 : ∀ u ∈ news, u.oneCell' = true)
    (h63 : n + m ≤ maxLen) (hbytes : (n + m) * bytes ≤ 140737488355328) (hbase : base ≤ w.heap.size) :
    ∃ v' w', (Builtin.append_ #[t, t] ty #[v, .slice a m c]).run Try.prog w = .ok v' w' ∧ w'.ownsRow base e size v' (n + m) (xs ++ news) ∧ w.grownBy w' v.ownBlock ∧ (v'.ownBlock = v.ownBlock ∨ v'.ownBlock = some w.heap.size) := by
  cases a with
  | none =>
    have he : news = [] := by
      rcases news with _ | ⟨x, r⟩
      · rfl
      · obtain ⟨b, o, h, _⟩ := hat (by simp); cases h
    subst he
    have hm : m = 0 := by
      rw [List.length_nil] at hl
      rcases Nat.mul_eq_zero.1 hl.symm with h | h
      · exact h
      · omega
    subst hm
    refine ⟨v, w, ?_, by simpa using hown, World.grownBy.refl _ _, .inl rfl⟩
    rcases hown.2 with ⟨rfl, hn⟩ | ⟨g, cap, cur, rfl, hbg, hg, hnc, hcm, hcs, htake⟩
    · simp [Builtin.append_, run_underlying ht, sizeOf, typeInfo, hi, Builtin.lenOf, Builtin.firstCells]
    · simp [Builtin.append_, run_underlying ht, sizeOf, typeInfo, hi, Builtin.lenOf, Builtin.firstCells, hnc, storeCells]
  | some x =>
    obtain ⟨v', w', h2, h3, h4, _, h6⟩ := run_append_own_at (P := Try.prog) w base t ty e i z size bytes ht hi hz hsize hby hzs hsz v n xs hown x m c news hl hat.src h1 h63 hbytes hbase
    exact ⟨v', w', h2, h3, h4, h6⟩

theorem wpList_cat (w : World) {ops : Array Oper} {rest : List Oper} {o : Oper} {a : Act} {Q : Exit → Act → World → Prop} (hgd : o.guard = none) (s x : Operand) (t : Nat)
    (ho : o.op = .call { callee := .builtin .append, args := #[s, x], argTypes := #[t, t] })
    (base e : Nat) (i : TypeInfo) (z : Value) (size bytes : Nat) (ht : Try.prog.underlying t = some (.slice e)) (hi : Try.prog.info? e = some i) (hz : i.zero = some z)
    (hsize : i.size = size) (hby : i.bytes = bytes) (hzs : z.cells.size = size) (hsz : 0 < size) (v : Value) (n : Nat) (xs : List Value) (hs : a.eval s = v) (hown : w.ownsRow base e size v n xs)
    (ad : Option Addr) (m c : Nat) (news : List Value) (hx : a.eval x = .slice ad m c) (hl : news.length = m * size) (hat : CAt w ad news) (h1 : ∀ u ∈ news, u.oneCell' = true)
    (h63 : n + m ≤ maxLen) (hbytes : (n + m) * bytes ≤ 140737488355328) (hbase : base ≤ w.heap.size)
    (h : ∀ v' w', w'.ownsRow base e size v' (n + m) (xs ++ news) → w.grownBy w' v.ownBlock → (v'.ownBlock = v.ownBlock ∨ v'.ownBlock = some w.heap.size) → wpList Try.prog ops Q rest (a.put o.dst v') w') : wpList Try.prog ops Q (o :: rest) a w := by
  obtain ⟨v', w', hrun, h2, h3, h4⟩ := cat_run w base t o.type e i z size bytes ht hi hz hsize hby hzs hsz v n xs hown ad m c news hl hat h1 h63 hbytes hbase
  refine wpList_plain hgd fun K hK => ?_
  unfold Oper.wp
  simp [execOp, ho, resolve, invoke, builtin, hs, hx, hrun, Result.andThen]
  exact hK _ _ (h v' w' h2 h3 h4)

theorem info2 : (Try.prog.info? 2).map (fun i => (i.zero, i.size, i.bytes)) = some (some (.int .i64 0), 1, 8) := by kernel_rfl
theorem info9 : (Try.prog.info? 9).map (fun i => (i.zero, i.size, i.bytes)) = some (some (.string ByteArray.empty), 1, 16) := by kernel_rfl
theorem info30 : (Try.prog.info? 30).map (fun i => (i.zero, i.size, i.bytes)) = some (some (.agg #[.int .u8 0, .int .u8 0, .int .i64 0, .string ByteArray.empty, .slice none 0 0, .slice none 0 0]), 6, 80) := by kernel_rfl

def Nums (w : World) (base : Nat) (v : Value) (ns : List Int) : Prop := w.ownsRow base 2 1 v ns.length (nvals ns)
def Txts (w : World) (base : Nat) (v : Value) (ts : List ByteArray) : Prop := w.ownsRow base 9 1 v ts.length (tvals ts)
def Flds (w : World) (base : Nat) (v : Value) (its : List It) : Prop := w.ownsRow base 30 6 v its.length (its.flatMap It.cells)

theorem Nums.nil (w : World) (base : Nat) : Nums w base (.slice none 0 0) [] := World.ownsRow_nil w base 2 1
theorem Txts.nil (w : World) (base : Nat) : Txts w base (.slice none 0 0) [] := World.ownsRow_nil w base 9 1
theorem Flds.nil (w : World) (base : Nat) : Flds w base (.slice none 0 0) [] := World.ownsRow_nil w base 30 6

theorem nvals_one (ns : List Int) : ∀ u ∈ nvals ns, u.oneCell' = true := by intro u hu; simp [nvals] at hu; obtain ⟨x, _, rfl⟩ := hu; rfl
theorem tvals_one (ts : List ByteArray) : ∀ u ∈ tvals ts, u.oneCell' = true := by intro u hu; simp [tvals] at hu; obtain ⟨x, _, rfl⟩ := hu; rfl

/-- 'append(v, x...)' of numbers. -/
theorem wpList_nums (w : World) {ops : Array Oper} {rest : List Oper} {o : Oper} {a : Act} {Q : Exit → Act → World → Prop} (hgd : o.guard = none) (s x : Operand)
    (ho : o.op = .call { callee := .builtin .append, args := #[s, x], argTypes := #[27, 27] })
    (base : Nat) (v : Value) (ns ms : List Int) (hs : a.eval s = v) (hown : Nums w base v ns) (ad : Option Addr) (m c : Nat) (hx : a.eval x = .slice ad m c) (hm : ms.length = m) (hat : NAt w ad ms)
    (hb : (ns.length + m) * 8 ≤ 140737488355328) (hbase : base ≤ w.heap.size)
    (h : ∀ v' w', Nums w' base v' (ns ++ ms) → w.grownBy w' v.ownBlock → (v'.ownBlock = v.ownBlock ∨ v'.ownBlock = some w.heap.size) → wpList Try.prog ops Q rest (a.put o.dst v') w') : wpList Try.prog ops Q (o :: rest) a w := by
  obtain ⟨i0, hi, hz0, hz1, hz2⟩ := info_parts info2
  subst hm
  refine wpList_cat w hgd s x 27 ho base 2 i0 _ 1 8 Try.underlying27 hi hz0 hz1 hz2 rfl (by omega) v ns.length (nvals ns) hs hown ad ms.length c (nvals ms) hx (by rw [nvals_len]; omega) hat (nvals_one ms) (by unfold maxLen; omega) hb hbase ?_
  intro v' w' h1 h2 h3
  refine h v' w' ?_ h2 h3
  unfold Nums nvals
  rw [List.length_append, List.map_append]
  exact h1

/-- 'append(v, x...)' of texts. -/
theorem wpList_txts (w : World) {ops : Array Oper} {rest : List Oper} {o : Oper} {a : Act} {Q : Exit → Act → World → Prop} (hgd : o.guard = none) (s x : Operand)
    (ho : o.op = .call { callee := .builtin .append, args := #[s, x], argTypes := #[28, 28] })
    (base : Nat) (v : Value) (ns ms : List ByteArray) (hs : a.eval s = v) (hown : Txts w base v ns) (ad : Option Addr) (m c : Nat) (hx : a.eval x = .slice ad m c) (hm : ms.length = m) (hat : TAt w ad ms)
    (hb : (ns.length + m) * 16 ≤ 140737488355328) (hbase : base ≤ w.heap.size)
    (h : ∀ v' w', Txts w' base v' (ns ++ ms) → w.grownBy w' v.ownBlock → (v'.ownBlock = v.ownBlock ∨ v'.ownBlock = some w.heap.size) → wpList Try.prog ops Q rest (a.put o.dst v') w') : wpList Try.prog ops Q (o :: rest) a w := by
  obtain ⟨i0, hi, hz0, hz1, hz2⟩ := info_parts info9
  subst hm
  refine wpList_cat w hgd s x 28 ho base 9 i0 _ 1 16 Try.underlying28 hi hz0 hz1 hz2 rfl (by omega) v ns.length (tvals ns) hs hown ad ms.length c (tvals ms) hx (by rw [tvals_len]; omega) hat (tvals_one ms) (by unfold maxLen; omega) hb hbase ?_
  intro v' w' h1 h2 h3
  refine h v' w' ?_ h2 h3
  unfold Txts tvals
  rw [List.length_append, List.map_append]
  exact h1

/-- 'append(v, f)' of a field that lies in a literal of one. -/
theorem wpList_fld (w : World) {ops : Array Oper} {rest : List Oper} {o : Oper} {a : Act} {Q : Exit → Act → World → Prop} (hgd : o.guard = none) (s x : Operand)
    (ho : o.op = .call { callee := .builtin .append, args := #[s, x], argTypes := #[31, 31] })
    (base : Nat) (v : Value) (its : List It) (i : It) (hs : a.eval s = v) (hown : Flds w base v its) (ad : Option Addr) (c : Nat) (hx : a.eval x = .slice ad 1 c) (hat : CAt w ad i.cells)
    (hb : (its.length + 1) * 80 ≤ 140737488355328) (hbase : base ≤ w.heap.size)
    (h : ∀ v' w', Flds w' base v' (its ++ [i]) → w.grownBy w' v.ownBlock → (v'.ownBlock = v.ownBlock ∨ v'.ownBlock = some w.heap.size) → wpList Try.prog ops Q rest (a.put o.dst v') w') : wpList Try.prog ops Q (o :: rest) a w := by
  obtain ⟨i0, hi, hz0, hz1, hz2⟩ := info_parts info30
  refine wpList_cat w hgd s x 31 ho base 30 i0 _ 6 80 Try.underlying31 hi hz0 hz1 hz2 rfl (by omega) v its.length (its.flatMap It.cells) hs hown ad 1 c i.cells hx rfl hat ?_ (by unfold maxLen; omega) hb hbase ?_
  · intro u hu; exact cells_one [i] u (by simpa using hu)
  · intro v' w' h1 h2 h3
    refine h v' w' ?_ h2 h3
    unfold Flds
    rw [List.length_append, List.flatMap_append]
    simpa using h1

/-- A literal's cells. -/
theorem cat_lit (w : World) (e : Nat) (cs : List Value) (vs : Array Value) (h : vs = cs.toArray) : CAt (w.alloc (.cells vs e)) (some ⟨w.heap.size, 0, none⟩) cs := by
  subst h
  refine fun _ => ⟨w.heap.size, 0, rfl, fun i hi => ?_⟩
  have hh : (w.alloc (.cells cs.toArray e)).heap[w.heap.size]? = some (.cells cs.toArray e (0, 0)) := heap_alloc_new w _
  rw [Nat.zero_add]
  unfold World.cell?
  simp only [hh]
  simp [hi]

end Go.Proofs.Ytkkdiciadkcmmaa
