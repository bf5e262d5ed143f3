/- What the document's answers (Number, Add, AddText, Text) and the helpers that lend and look at bytes answer; for every slice of bytes of at most 2^47 elements. -/
import Derived.Test.YtdchmffkbiaeaaaGrow
namespace Go.Proofs.Ytdchmffkbiaeaaa
open Go.RowKit

/-- 'append(v, x...)' at the operation: v the call's own, x a slice of bytes. -/
theorem wpList_app (w : World) {ops : Array Oper} {rest : List Oper} {o : Oper} {a : Act} {Q : Exit → Act → World → Prop} (hgd : o.guard = none) (s x : Operand)
    (ho : o.op = .call { callee := .builtin .append, args := #[s, x], argTypes := #[25, 25] }) (hty : o.type = 25)
    (base : Nat) (v : Value) (l src : List UInt8) (hs : a.eval s = v) (hown : Own w base v l) (ad : Option Addr) (m c : Nat) (hx : a.eval x = .slice ad m c) (hm : src.length = m) (hat : At w ad src)
    (hb : l.length + m ≤ 140737489000000) (hbase : base ≤ w.heap.size)
    (h : ∀ v' w', Own w' base v' (l ++ src) → Below base w w' → wpList Try.prog ops Q rest (a.put o.dst v') w') : wpList Try.prog ops Q (o :: rest) a w := by
  obtain ⟨v', w', hrun, h1, h2⟩ := app_slice w base v l src hown ad m c hm hat hb hbase
  refine wpList_plain hgd fun K hK => ?_
  unfold Oper.wp
  simp [execOp, ho, hty, resolve, invoke, builtin, hs, hx, hrun, Result.andThen]
  exact hK _ _ (h v' w' h1 h2)

theorem wpList_app_string (w : World) {ops : Array Oper} {rest : List Oper} {o : Oper} {a : Act} {Q : Exit → Act → World → Prop} (hgd : o.guard = none) (s x : Operand)
    (ho : o.op = .call { callee := .builtin .append, args := #[s, x], argTypes := #[25, 9] }) (hty : o.type = 25)
    (base : Nat) (v : Value) (l : List UInt8) (t : ByteArray) (hs : a.eval s = v) (hown : Own w base v l) (hx : a.eval x = .string t)
    (hb : l.length + t.size ≤ 140737489000000) (hbase : base ≤ w.heap.size)
    (h : ∀ v' w', Own w' base v' (l ++ t.data.toList) → Below base w w' → wpList Try.prog ops Q rest (a.put o.dst v') w') : wpList Try.prog ops Q (o :: rest) a w := by
  obtain ⟨v', w', hrun, h1, h2⟩ := app_string w base v l t hown hb hbase
  refine wpList_plain hgd fun K hK => ?_
  unfold Oper.wp
  simp [execOp, ho, hty, resolve, invoke, builtin, hs, hx, hrun, Result.andThen]
  exact hK _ _ (h v' w' h1 h2)

theorem copy_any (a : Option Addr) (cap len : Nat) (l : List UInt8) (w : World) (hl : l.length = len) (hlen : len ≤ 140737488355328) (hat : At w a l) :
    Calls Try.prog 29 #[.slice a len cap] w fun e w' => ∃ v, e = .returned v ∧ Own w' w.heap.size v l ∧ Below w.heap.size w w' := by
  go_enter Try.func29, Try.ntmps29
  go_wp2_with (at_builtin; refine wpList_app _ rfl (.tmp 4) (.tmp 5) rfl rfl w.heap.size _ [] l rfl (Own.nil _ _) a len cap rfl hl hat (by simp; omega) (Nat.le_refl _) ?_; intro v1 w1 ho1 hb1)
  go_ret
  exact ⟨_, rfl, ho1, hb1⟩

theorem Own.alloc {w : World} {base : Nat} {v : Value} {l : List UInt8} (h : Own w base v l) (o : Obj) : Own (w.alloc o) base v l := World.ownsRow.alloc h o

theorem lent_any (a : Option Addr) (cap len : Nat) (l : List UInt8) (w : World) (hl : l.length = len) (hlen : len ≤ 140737488355328) (hat : At w a l) :
    Calls Try.prog 14 #[.slice a len cap] w fun e w' => ∃ g c, e = .returned (.slice (some ⟨g, 0, none⟩) len c) ∧ len + 3 ≤ c ∧ At w' (some ⟨g, 0, none⟩) (l ++ [77, 78, 79]) ∧ Below w.heap.size w w' := by
  go_enter Try.func14, Try.ntmps14
  go_wp2_with fail
  refine (copy_any a cap len l _ hl hlen hat).mono ?_
  rintro e w1 ⟨v1, rfl, ho1, hb1⟩
  have hz := hb1.size
  go_wp2_with (at_builtin; refine wpList_app _ rfl (.tmp 5) (.tmp 6) rfl rfl w.heap.size v1 l [77, 78, 79] rfl (ho1.alloc _) (some ⟨w1.heap.size, 0, none⟩) 3 3 rfl rfl (at_lit w1 [77, 78, 79] _ rfl) (by omega) (by simp; omega) ?_; intro v2 w2 ho2 hb2; obtain ⟨g2, c2, hv2, hc2, hat2⟩ := ho2.form_pos (by simp); have hc3 : len + 3 ≤ c2 := (by rw [List.length_append, hl] at hc2; exact hc2); rw [hv2])
  go_ret
  exact ⟨g2, c2, rfl, hc3, hat2, (hb1.alloc hz _).trans hb2⟩

/-- The lent bytes, and what stands behind them, are as they were. -/
theorem kept_any (g c cap len : Nat) (a : Option Addr) (l : List UInt8) (w : World) (hl : l.length = len) (hlen : len ≤ 140737488355328) (hc : len + 3 ≤ c) (hat1 : At w (some ⟨g, 0, none⟩) (l ++ [77, 78, 79])) (hat : At w a l) :
    Calls Try.prog 24 #[.slice (some ⟨g, 0, none⟩) len c, .slice a len cap] w fun e w' => e = .returned (.bool true) ∧ w' = w := by
  obtain ⟨b, o, he, hcell⟩ := hat1 (by simp)
  simp at he
  obtain ⟨rfl, rfl⟩ := he
  have c0 : w.cell? ⟨g, len, none⟩ = some (.int .u8 77) := by have := hcell len (by simp; omega); simp [hl] at this; simpa [← hl] using this
  have c1 : w.cell? ⟨g, len + 1, none⟩ = some (.int .u8 78) := by have := hcell (len + 1) (by simp; omega); simp [← hl] at this; simpa [← hl] using this
  have c2 : w.cell? ⟨g, len + 2, none⟩ = some (.int .u8 79) := by have := hcell (len + 2) (by simp; omega); simp [← hl] at this; simpa [← hl] using this
  go_enter Try.func24, Try.ntmps24
  go_wp2_with fail
  refine (same_any _ _ len len _ _ l l _ hl hl (At.head hat1) hat rfl).mono ?_
  rintro e w1 ⟨rfl, rfl⟩
  go_wp2
  go_ret
  exact ⟨rfl, rfl⟩
end Go.Proofs.Ytdchmffkbiaeaaa
