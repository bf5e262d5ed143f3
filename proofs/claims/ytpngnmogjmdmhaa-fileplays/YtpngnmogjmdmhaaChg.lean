/- Changes in rows; what bytes.Clone and appliedTo do. -/
import Derived.Test.YtpngnmogjmdmhaaDisk
namespace Go.Proofs.Ytpngnmogjmdmhaa
open Go.RowKit

/-- A change in memory: where its bytes lie. -/
structure CIt where
  c : Ch
  a : Option Addr
  cap : Nat

def CIt.val (i : CIt) : Value := .slice i.a i.c.data.length i.cap
def CIt.cells (i : CIt) : List Value := [.int .i64 (i.c.file : Int), .bool i.c.app, i.val, .int .i64 (i.c.left : Int)]
def CIt.agg (i : CIt) : Value := .agg #[.int .i64 (i.c.file : Int), .bool i.c.app, i.val, .int .i64 (i.c.left : Int)]

def chs (its : List CIt) : List Ch := its.map CIt.c

theorem itsLen (its : List CIt) : (its.flatMap CIt.cells).length = its.length * 4 := by
  induction its with
  | nil => rfl
  | cons i r ih => simp [List.flatMap_cons, CIt.cells, ih]; omega

theorem its_one (its : List CIt) : ∀ u ∈ its.flatMap CIt.cells, u.oneCell' = true := by
  intro u hu
  obtain ⟨i, _, hi⟩ := List.mem_flatMap.1 hu
  simp [CIt.cells] at hi
  rcases hi with rfl | rfl | rfl | rfl <;> rfl

/-- append onto a row of the call's own: what is turned is that row alone. -/
theorem wpList_appK (w : World) {ops : Array Oper} {rest : List Oper} {o : Oper} {a : Act} {Q : Exit → Act → World → Prop} (hgd : o.guard = none) (s x : Operand)
    (ho : o.op = .call { callee := .builtin .append, args := #[s, x], argTypes := #[26, 26] }) (hty : o.type = 26)
    (base : Nat) (v : Value) (l src : List UInt8) (hs : a.eval s = v) (hown : Own w base v l) (ad : Option Addr) (m c : Nat) (hx : a.eval x = .slice ad m c) (hm : src.length = m) (hat : At w ad src)
    (hb : l.length + m ≤ 140737489000000) (hbase : base ≤ w.heap.size)
    (h : ∀ v' w', Own w' base v' (l ++ src) → Kp (fun k => v.ownBlock = some k) w w' → (∀ k, v'.ownBlock = some k → v.ownBlock = some k ∨ w.heap.size ≤ k) → wpList Try.prog ops Q rest (a.put o.dst v') w') : wpList Try.prog ops Q (o :: rest) a w := by
  obtain ⟨v', w', hrun, h1, h2, h3⟩ := app_more w base v l src hown ad m c hm hat hb hbase
  refine wpList_plain hgd fun K hK => ?_
  unfold Oper.wp
  simp [execOp, ho, hty, resolve, invoke, builtin, hs, hx, hrun, Result.andThen]
  exact hK _ _ (h v' w' h1 (Kp.grown h2) h3)

theorem own_empty (w : World) (base : Nat) (h : base ≤ w.heap.size) : Own (w.alloc (.cells #[] 5)) base (.slice (some ⟨w.heap.size, 0, none⟩) 0 0) [] :=
  ⟨rfl, .inr ⟨w.heap.size, 0, #[], rfl, h, heap_alloc_new w _, Nat.le_refl _, by unfold maxLen; omega, rfl, rfl⟩⟩

set_option maxRecDepth 100000 in
theorem clone_any (a : Option Addr) (cap len : Nat) (l : List UInt8) (w : World) (hl : l.length = len) (hlen : len ≤ 140737488355328) (hat : At w a l) :
    Calls Try.prog 34 #[.slice a len cap] w fun e w' => ∃ v, e = .returned v ∧ Own w' w.heap.size v l ∧ Below w.heap.size w w' := by
  cases a with
  | none =>
    have h0 : l = [] := by
      rcases l with _ | ⟨x, r⟩
      · rfl
      · obtain ⟨b, o, h, _⟩ := hat (by simp); cases h
    subst h0
    subst hl
    have hnil := Lib.run_eql_slice_nil (P := Try.prog) w 26 5 none 0 cap 0 0 Try.underlying26
    go_enter Try.func34, Try.ntmps34
    go_wp2
    go_ret
    exact ⟨_, rfl, Own.nil _ _, Below.refl _ _⟩
  | some x =>
    obtain ⟨xb, xo, xs⟩ := x
    have hx := hat.below (below_lit w (.cells #[] 5))
    have hnil := Lib.run_eql_slice_nil (P := Try.prog) w 26 5 (some ⟨xb, xo, xs⟩) len cap 0 0 Try.underlying26
    go_enter Try.func34, Try.ntmps34
    go_wp2_with (at_builtin; refine wpList_app _ rfl (.tmp 5) (.tmp 6) rfl rfl w.heap.size _ [] l rfl (own_empty w _ (Nat.le_refl _)) _ len cap rfl hl hx (by simp; omega) (below_lit w _).size ?_; intro v1 w1 ho1 hb1)
    go_ret
    exact ⟨_, rfl, ho1, (below_lit w _).trans hb1⟩

theorem clone_sl (a : Option Addr) (cap len : Nat) (l : List UInt8) (w : World) (hl : l.length = len) (hlen : len ≤ 140737488355328) (hat : At w a l) :
    Calls Try.prog 34 #[.slice a len cap] w fun e w' => ∃ b c, e = .returned (.slice b len c) ∧ Own w' w.heap.size (.slice b len c) l ∧ Below w.heap.size w w' := by
  refine (clone_any a cap len l w hl hlen hat).mono ?_
  rintro e w' ⟨v, rfl, ho, hb⟩
  obtain ⟨b, c, rfl, _, _⟩ := ho.form
  rw [hl] at ho ⊢
  exact ⟨b, c, rfl, ho, hb⟩

theorem Own.slice {w : World} {base : Nat} {a : Option Addr} {n c m : Nat} {l : List UInt8} (h : Own w base (.slice a n c) l) (hm : m ≤ l.length) : Own w base (.slice a m c) (l.take m) := by
  refine ⟨by simp, ?_⟩
  rcases h.2 with ⟨h1, h2⟩ | ⟨g, cap, cur, h1, h2, h3, h4, h5, h6, h7⟩
  · simp at h1
    refine .inl ⟨?_, by simp; omega⟩
    have : m = 0 := by omega
    subst this
    rw [h1.1, h1.2.2]
  · simp only [Value.slice.injEq] at h1
    obtain ⟨rfl, rfl, rfl⟩ := h1
    have e : (l.take m).length = m := by rw [List.length_take]; omega
    refine .inr ⟨g, c, cur, ?_, h2, h3, by omega, h5, h6, ?_⟩
    · rw [e]
    · rw [e, Nat.mul_one]
      rw [Nat.mul_one] at h7
      have : cur.toList.take m = (cur.toList.take l.length).take m := by rw [List.take_take, Nat.min_eq_left hm]
      rw [this, h7, List.map_take]

/-- What appliedTo leaves: v' is v's row, or new. -/
def Applied (w w' : World) (v v' : Value) : Prop := Kp (fun k => v.ownBlock = some k) w w' ∧ ∀ k, v'.ownBlock = some k → v.ownBlock = some k ∨ w.heap.size ≤ k

theorem applied_any (i : CIt) (a : Option Addr) (n cap : Nat) (l : List UInt8) (w : World) (hn : l.length = n) (hown : Own w 0 (.slice a n cap) l) (hat : At w i.a i.c.data) (hcut : i.c.app = false → i.c.left ≤ n) (hlen : (i.c.on l).length ≤ 1048576) :
    Calls Try.prog 52 #[i.agg, .slice a n cap] w fun e w' => ∃ b m c, e = .returned (.slice b m c) ∧ m = (i.c.on l).length ∧ Own w' 0 (.slice b m c) (i.c.on l) ∧ Applied w w' (.slice a n cap) (.slice b m c) := by
  obtain ⟨⟨file, app, data, left⟩, ia, icap⟩ := i
  subst hn
  unfold CIt.agg CIt.val
  simp only at *
  cases app with
  | true =>
    have hat' := hat.below (below_lit w (.cells #[.int .i64 (file : Int), .bool true, .slice ia data.length icap, .int .i64 (left : Int)] 79))
    have hown' := hown.below (below_lit w (.cells #[.int .i64 (file : Int), .bool true, .slice ia data.length icap, .int .i64 (left : Int)] 79))
    have hsz := (below_lit w (.cells #[.int .i64 (file : Int), .bool true, .slice ia data.length icap, .int .i64 (left : Int)] 79)).size
    have hlen' : l.length + data.length ≤ 1048576 := by simpa [Ch.on] using hlen
    go_enter Try.func52, Try.ntmps52
    go_wp2_with (at_builtin; refine wpList_appK _ rfl (.tmp 7) (.tmp 9) rfl rfl 0 _ l data rfl hown' _ data.length icap rfl rfl hat' (by omega) (Nat.zero_le _) ?_; intro v1 w1 ho1 hk1 hn1; obtain ⟨b1, c1, hv1, _, _⟩ := ho1.form; rw [hv1]; rw [hv1] at ho1)
    go_ret
    rw [hv1] at hn1
    rw [List.length_append] at hn1 ho1
    refine ⟨_, _, _, rfl, by simp [Ch.on], ho1, ?_, ?_⟩
    · exact (Kp.of_below (below_lit w _)).trans hk1
    · intro k hk
      rcases hn1 k hk with h | h
      · exact .inl h
      · exact .inr (by omega)
  | false =>
    have hc := hcut rfl
    have hcap : l.length ≤ cap := by
      obtain ⟨x, y, hv, hc, _⟩ := hown.form
      simp only [Value.slice.injEq] at hv
      omega
    have hcc : left ≤ cap := by omega
    go_enter Try.func52, Try.ntmps52
    go_wp2
    go_ret
    have e : (l.take left).length = left := by rw [List.length_take]; omega
    refine ⟨_, _, _, rfl, by simp [Ch.on]; omega, ?_, Kp.of_below (below_lit w _), fun k hk => .inl (by cases a <;> exact hk)⟩
    have := (Own.slice hown hc).below (below_lit w (.cells #[.int .i64 (file : Int), .bool false, .slice ia data.length icap, .int .i64 (left : Int)] 79))
    simpa [Ch.on] using this
end Go.Proofs.Ytpngnmogjmdmhaa
