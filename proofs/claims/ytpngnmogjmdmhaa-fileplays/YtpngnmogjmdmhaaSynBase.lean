/- What FileSynced's states are: the files behind each call since the last sync; and what a crash leaves, held against them. -/
import Derived.Test.YtpngnmogjmdmhaaVals2
namespace Go.Proofs.Ytpngnmogjmdmhaa
open Go.RowKit

def hist (ops : List Ch) (dur : Fs) : List Fs := (List.range (ops.length + 1)).map fun k => runs (ops.take k) dur

theorem hist_len (ops : List Ch) (dur : Fs) : (hist ops dur).length = ops.length + 1 := by simp [hist]
theorem hist_get (ops : List Ch) (dur : Fs) (k : Nat) (h : k < (hist ops dur).length) : (hist ops dur)[k] = runs (ops.take k) dur := by simp [hist]
theorem hist_nil (dur : Fs) : hist [] dur = [dur] := rfl
theorem hist_snoc (ops : List Ch) (c : Ch) (dur : Fs) : hist (ops ++ [c]) dur = hist ops dur ++ [runs (ops ++ [c]) dur] := by
  unfold hist
  rw [List.length_append, List.length_singleton, List.range_succ, List.map_append]
  congr 1
  · refine List.map_congr_left (fun k hk => ?_)
    have := List.mem_range.1 hk
    rw [List.take_append_of_le_length (by omega)]
  · rw [List.map_singleton, List.take_of_length_le (by simp)]

/-- A call that is let by is noted. -/
theorem Done.noted {d d' : Dsk} (h : Done d d') (hc : Calm d) (hl : ∀ i, i < 3 → (d.cur i).length ≤ 1000000) : ∃ c : Ch, d' = d.note c ∧ c.file < 3 ∧ ∀ i, (apply c d.cur i).length ≤ (d.cur i).length + 50 := by
  rcases h with ⟨f, n, hf, hn, rfl⟩ | ⟨f, l, hf, hn, rfl⟩
  · refine ⟨⟨f, false, [], n⟩, ?_, hf, fun i => ?_⟩
    · unfold Dsk.cutD
      rw [if_neg (by unfold bad; omega), if_neg (by simp; omega), if_neg (by rw [hc.errs]; simp), hc.went]
      rfl
    · unfold apply Ch.on
      split
      · simp
        omega
      · omega
  · refine ⟨⟨f, true, l, 0⟩, ?_, hf, fun i => ?_⟩
    · unfold Dsk.appD
      have := hl f hf
      rw [if_neg (by unfold bad; omega), if_neg (by simp; omega), if_neg (by rw [hc.errs]; simp), hc.went]
      rfl
    · unfold apply Ch.on
      split
      · simp
        exact hn
      · omega

/-- What a crash leaves that keeps not all. -/
theorem crash_part (ops : List Ch) (dur : Fs) (K T : Nat) (h : K < ops.length) : ∃ c : Ch, runs (ops.take (K + 1)) dur = apply c (runs (ops.take K) dur) ∧ c.file = (ops[K]).file ∧
    ((c.app = false ∧ runs (kept ops K T) dur = runs (ops.take K) dur) ∨ (c.app = true ∧ runs (kept ops K T) dur = apply { c with data := c.data.take T } (runs (ops.take K) dur))) := by
  refine ⟨ops[K], ?_, rfl, ?_⟩
  · rw [List.take_succ_eq_append_getElem h, runs_append]
    rfl
  · have hd : ops.drop K = ops[K] :: ops.drop (K + 1) := List.drop_eq_getElem_cons h
    unfold kept
    rw [hd]
    dsimp only
    cases ha : (ops[K]).app with
    | false => left; simp
    | true =>
      right
      refine ⟨rfl, ?_⟩
      simp only [if_true, runs_append]
      rfl

theorem okay_file {ops : List Ch} {g : Fs} (h : Okay ops g) : ∀ (K : Nat) (hK : K < ops.length), (ops[K]).file < 3 := by
  induction ops generalizing g with
  | nil => intro K hK; simp at hK
  | cons c r ih =>
    intro K hK
    cases K with
    | zero => exact h.1.1
    | succ K => exact ih h.2 K (by simpa using hK)

/-- States in a row of the call's own. -/
def Sts (w : World) (base : Nat) (v : Value) (fs : List Fs) : Prop := w.ownsRow base 66 3 v fs.length (fs.flatMap fcells)

theorem info66b : (Try.prog.info? 66).map (fun i => (i.zero, i.size, i.bytes)) = some (some (.agg #[.string ByteArray.empty, .string ByteArray.empty, .string ByteArray.empty]), 3, 48) := by kernel_rfl

theorem flat_len (fs : List Fs) : (fs.flatMap fcells).length = fs.length * 3 := by
  induction fs with
  | nil => rfl
  | cons f r ih => rw [List.flatMap_cons, List.length_append, ih, List.length_cons]; simp [fcells]; omega

theorem flat_get : ∀ (fs : List Fs) (k j : Nat) (hk : k < fs.length) (v : Value), (fcells fs[k])[j]? = some v → (fs.flatMap fcells)[k * 3 + j]? = some v
  | [], k, _, hk, _, _ => by simp at hk
  | f :: r, k, j, hk, v, h => by
    rw [List.flatMap_cons]
    cases k with
    | zero =>
      have hj : j < (fcells f).length := by
        rcases Nat.lt_or_ge j (fcells f).length with h1 | h1
        · exact h1
        · rw [List.getElem_cons_zero, List.getElem?_eq_none h1] at h; cases h
      rw [List.getElem?_append_left (by simpa using hj)]
      simpa using h
    | succ k =>
      have := flat_get r k j (by simpa using hk) v (by simpa using h)
      rw [List.getElem?_append_right (by simp [fcells]; omega)]
      have e : (k + 1) * 3 + j - (fcells f).length = k * 3 + j := by simp [fcells]; omega
      rw [e]
      exact this

theorem Sts.range {w : World} {base n c : Nat} {a : Option Addr} {fs : List Fs} (h : Sts w base (.slice a n c) fs) (hne : 0 < fs.length) : n = fs.length ∧ ∃ g, a = some ⟨g, 0, none⟩ ∧ base ≤ g ∧ ∀ (k : Nat) (hk : k < fs.length), w.rangeAt g (k * 3) (fcells fs[k]) := by
  have hcat := owns_cat h
  rcases h.2 with ⟨hv, h0⟩ | ⟨g, cap, cur, hv, hb, _⟩
  · omega
  · simp only [Value.slice.injEq] at hv
    obtain ⟨rfl, rfl, rfl⟩ := hv
    refine ⟨rfl, g, rfl, hb, fun k hk j v hv => ?_⟩
    have := hcat.src _ _ (flat_get fs k j hk v hv)
    rw [Addr.add_mid] at this
    simpa using this

theorem Sts.one (w : World) (base : Nat) (f : Fs) (hb : base ≤ w.heap.size) : Sts (w.alloc (.cells #[.string (txt (f 0)), .string (txt (f 1)), .string (txt (f 2))] 66)) base (.slice (some ⟨w.heap.size, 0, none⟩) 1 1) [f] := by
  refine ⟨rfl, .inr ⟨w.heap.size, 1, _, rfl, hb, heap_alloc_new w _, Nat.le_refl _, by unfold maxLen; omega, rfl, rfl⟩⟩

theorem cells_fs (f : Fs) : ∀ u ∈ fcells f, u.oneCell' = true := by
  intro u hu
  simp only [fcells, List.mem_cons, List.mem_nil_iff, or_false] at hu
  rcases hu with rfl | rfl | rfl <;> rfl

/-- One state more. -/
theorem wpList_sts (w : World) {ops : Array Oper} {rest : List Oper} {o : Oper} {a : Act} {Q : Exit → Act → World → Prop} (hgd : o.guard = none) (s x : Operand)
    (ho : o.op = .call { callee := .builtin .append, args := #[s, x], argTypes := #[68, 68] })
    (base : Nat) (v : Value) (fs : List Fs) (f : Fs) (hs : a.eval s = v) (hown : Sts w base v fs) (ad : Option Addr) (c : Nat) (hx : a.eval x = .slice ad 1 c) (hat : CAt w ad (fcells f))
    (hb : fs.length ≤ 1000) (hbase : base ≤ w.heap.size)
    (h : ∀ v' w', Sts w' base v' (fs ++ [f]) → w.grownBy w' v.ownBlock → (v'.ownBlock = v.ownBlock ∨ v'.ownBlock = some w.heap.size) → wpList Try.prog ops Q rest (a.put o.dst v') w') : wpList Try.prog ops Q (o :: rest) a w := by
  obtain ⟨i0, hi, hz0, hz1, hz2⟩ := info_parts info66b
  refine wpList_cat w hgd s x 68 ho base 66 i0 _ 3 48 Try.underlying68 hi hz0 hz1 hz2 rfl (by omega) v fs.length (fs.flatMap fcells) hs hown ad 1 c (fcells f) hx rfl hat (cells_fs f) (by unfold maxLen; omega) (by omega) hbase ?_
  intro v' w' h1 h2 h3
  refine h v' w' ?_ h2 h3
  unfold Sts
  rw [List.length_append, List.flatMap_append]
  simpa using h1
theorem TBlk.range {w : World} {g : Nat} {f : Fs} (h : TBlk w g (fun i => txt (f i))) : w.rangeAt g 0 (fcells f) := by
  intro j v hv
  rw [Nat.zero_add]
  match j with
  | 0 => rw [h.cell 0 (by omega)]; simpa [fcells] using hv
  | 1 => rw [h.cell 1 (by omega)]; simpa [fcells] using hv
  | 2 => rw [h.cell 2 (by omega)]; simpa [fcells] using hv
  | j + 3 => simp [fcells] at hv

theorem fcells_get (f : Fs) (j : Nat) (h : j < 3) : (fcells f)[j]? = some (.string (txt (f j))) := by
  match j, h with
  | 0, _ | 1, _ | 2, _ => rfl

theorem range_below {w w' : World} {g o : Nat} {cs : List Value} (h : w.rangeAt g o cs) (hb : Below w.heap.size w w') : w'.rangeAt g o cs := fun j v hv => by
  have := h j v hv
  rw [hb.cell (p := ⟨g, o + j, none⟩) (World.block_lt_of_cell? w _ this)]
  exact this

theorem txt_size (l : List UInt8) : (txt l).size = l.length := by simp [txt, ByteArray.size]

set_option maxRecDepth 100000 in
theorem add_nat (w : World) (m n : Nat) (h : m + n ≤ 4611686018427387904) : (binOp .add 3 (.int .i64 (m : Int)) (.int .i64 (n : Int))).run Try.prog w = .ok (.int .i64 ((m + n : Nat) : Int)) w := by
  have e : IntKind.i64.wrap ((m : Int) + n) = ((m + n : Nat) : Int) := by
    rw [IntWalk.i64_in _ (by omega)]
    omega
  show Result.ok (Value.int .i64 (IntKind.i64.wrap ((m : Int) + n))) w = _
  rw [e]

theorem gtr_nat (w : World) (m n : Nat) : (binOp .gtr 3 (.int .i64 (m : Int)) (.int .i64 (n : Int))).run Try.prog w = .ok (.bool (decide (n < m))) w := by
  show Result.ok (Value.bool (decide ((n : Int) < m))) w = _
  rw [show decide ((n : Int) < m) = decide (n < m) by simp]

theorem eql_same (w : World) (n : Int) : (binOp .eql 3 (.int .i64 n) (.int .i64 n)).run Try.prog w = .ok (.bool true) w := by
  show Result.ok (Value.bool (n == n)) w = _
  rw [beq_self_eq_true]

theorem eql_txt (w : World) (s : ByteArray) : (binOp .eql 9 (.string s) (.string s)).run Try.prog w = .ok (.bool true) w := by
  show Result.ok (Value.bool (s.toList == s.toList)) w = _
  rw [beq_self_eq_true]
end Go.Proofs.Ytpngnmogjmdmhaa
