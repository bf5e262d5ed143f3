/- What Put answers: ErrLong, or the frame's bytes in memory of their own. -/
import Derived.Test.YtdhafnmahpafaaaFeed2
import Derived.Deep.RegionLaw
namespace Go.Proofs.Ytdhafnmahpafaaa
open Go.RowKit

/-- A call as one step of a region that draws its order. -/
theorem step_call {ops : Array Oper} {o : Oper} {a : Act} {w : World} {K : Act → World → Prop} {Q : Exit → Act → World → Prop} {E : Prop} (hg : o.guard = none) (f : FuncId) (args : Array Operand) (tys : Array TypeId)
    (ho : o.op = .call { callee := .value (.func f), args := args, argTypes := tys }) (fn : Func) (hf : Try.prog.funcs[f]? = some fn) (hn : (fn.name == "runtime.NumGoroutine") = false) (hbd : fn.body.isNone = false) (vals : Array Value) (hv : args.map a.eval = vals) {post : Ending → World → Prop} (hc : Calls Try.prog f vals w post)
    (hK : ∀ e w', post e w' → ∃ v, e = .returned v ∧ K (a.put o.dst v) w') :
    if Region.wanted o (yielded ops a.tmps) = true then Oper.wp Try.prog o a w K Q else E := by
  have hw : Region.wanted o (yielded ops a.tmps) = true := by simp [Region.wanted, hg]
  rw [if_pos hw]
  have he : (execOp a.eval o).run Try.prog w = .ok (.enter f vals) w := by
    subst hv
    have hn' : ¬ fn.name = "runtime.NumGoroutine" := by simpa using hn
    have hbd' : ¬ fn.body = none := by intro e; rw [e] at hbd; cases hbd
    simp [execOp, ho, resolve, invoke, Act.eval, Deferred.ofValue, callFunc, hf, hn', hbd']
  unfold Oper.wp
  rw [he, Oper.upon_enter]
  refine hc.mono ?_
  intro e w' h
  obtain ⟨v, rfl, hk⟩ := hK e w' h
  exact hk

/-- 'append(v, x...)' as one step of a region that draws its order. -/
theorem step_app {ops : Array Oper} {o : Oper} {a : Act} {w : World} {K : Act → World → Prop} {Q : Exit → Act → World → Prop} {E : Prop} (hg : o.guard = none) (s x : Operand)
    (ho : o.op = .call { callee := .builtin .append, args := #[s, x], argTypes := #[22, 22] }) (hty : o.type = 22)
    (base : Nat) (v : Value) (l src : List UInt8) (hs : a.eval s = v) (hown : Own w base v l) (ad : Option Addr) (m c : Nat) (hx : a.eval x = .slice ad m c) (hm : src.length = m) (hat : At w ad src)
    (hb : l.length + m ≤ 140737489000000) (hbase : base ≤ w.heap.size)
    (hK : ∀ v' w', Own w' base v' (l ++ src) → Below base w w' → K (a.put o.dst v') w') :
    if Region.wanted o (yielded ops a.tmps) = true then Oper.wp Try.prog o a w K Q else E := by
  have hw : Region.wanted o (yielded ops a.tmps) = true := by simp [Region.wanted, hg]
  rw [if_pos hw]
  obtain ⟨v', w', hrun, h1, h2⟩ := app_slice w base v l src hown ad m c hm hat hb hbase
  unfold Oper.wp
  simp [execOp, ho, hty, resolve, invoke, builtin, hs, hx, hrun, Result.andThen]
  exact hK v' w' h1 h2

theorem Row.own {w : World} {g base n : Nat} {l : List UInt8} (h : Row w g l) (hl : l.length = n) (hb : base ≤ g) (hm : n ≤ 140737489000000) : Own w base (.slice (some ⟨g, 0, none⟩) n n) l := by
  subst hl
  refine ⟨by simp, .inr ⟨g, l.length, _, rfl, hb, h, Nat.le_refl _, by unfold maxLen; omega, by simp, ?_⟩⟩
  rw [Nat.mul_one]
  exact List.take_of_length_le (by simp)

theorem Own.at' {w : World} {base n cap : Nat} {a : Option Addr} {l : List UInt8} (h : Own w base (.slice a n cap) l) : At w a l := by
  obtain ⟨a', c, he, _, hat⟩ := h.form
  simp only [Value.slice.injEq] at he
  rw [he.1]
  exact hat

theorem be_one (k : UInt8) : be 1 k.toNat = [k] := by simp [be]

theorem put_long (k : UInt8) (len cap : Nat) (a : Option Addr) (w : World) (hlen : 65535 < len) :
    Calls Try.prog 8 #[.agg #[.int .u8 (k.toNat : Int), .slice a len cap]] w fun e w' => e = .returned (.tuple #[.slice none 0 0, .int .i64 3]) ∧ Below w.heap.size w w' := by
  go_enter Try.func8, Try.ntmps8
  go_wp2
  go_ret2
  exact ⟨rfl, below_lit w _⟩

set_option maxRecDepth 100000 in
set_option maxHeartbeats 1000000 in
theorem putf_any (k : UInt8) (len cap : Nat) (a : Option Addr) (l : List UInt8) (w : World) (hl : l.length = len) (hlen : len ≤ 65535) (hat : At w a l) :
    Calls Try.prog 8 #[.agg #[.int .u8 (k.toNat : Int), .slice a len cap]] w fun e w' => ∃ g, e = .returned (.tuple #[.slice (some ⟨g, 0, none⟩) (len + 9) (len + 9), .int .i64 0]) ∧ w.heap.size ≤ g ∧ Row w' g (frameOf (k, l)) ∧ Below w.heap.size w w' := by
  have hk := k.toNat_lt
  have hf : FBlk (w.alloc (.cells #[.int .u8 (k.toNat : Int), .slice a len cap] 27)).drew w.heap.size (k.toNat : Int) (.slice a len cap) := FBlk.new w _ _
  have hat0 : At (w.alloc (.cells #[.int .u8 (k.toNat : Int), .slice a len cap] 27)).drew a l := hat.below (below_lit w _).drew
  have hbW : Below w.heap.size w (w.alloc (.cells #[.int .u8 (k.toNat : Int), .slice a len cap] 27)).drew := (below_lit w _).drew
  have hcall := add8_ex none 0 0 k.toNat [] (w.alloc (.cells #[.int .u8 (k.toNat : Int), .slice a len cap] 27)).drew rfl (by omega) (by omega) (at_nil _ _)
  rw [List.nil_append, be_one] at hcall
  have hl1 : ([k] ++ l).length = len + 1 := by simp [hl]
  go_enter Try.func8, Try.ntmps8
  go_wp2_with fail
  go_region_law (first
    | (refine step_call rfl 24 _ _ rfl Try.f24 Try.func24 (by kernel_rfl) (by kernel_rfl) #[.slice none 0 0, .int .u8 (k.toNat : Int)] (by simp [Act.eval]) hcall ?_; rintro e w1 ⟨g1, rfl, hg1, hr1, hb1⟩; refine ⟨_, rfl, ?_⟩; have hf2 := hf.below hb1; have hf3 := hf2.c1; have hat1 := hat0.below hb1; have hb1' := bnext hbW hb1; have hg1' : w.heap.size ≤ g1 := Nat.le_trans hbW.size hg1; have ho1 := hr1.own (base := w.heap.size) (n := 1) rfl hg1' (by omega); have hz1 := hb1'.size)
    | (refine step_app rfl (.tmp 12) (.tmp 14) rfl rfl w.heap.size _ [k] l rfl ho1 a len cap rfl hl hat1 (by simp; omega) hz1 ?_; intro v2 w2 ho2 hb2))
  all_goals
    obtain ⟨a2, c2, rfl, hc2, _⟩ := ho2.form
    rw [hl1] at ho2 ⊢
    replace hb2 := hb1'.trans hb2
    have hadd := add32_ex none 0 0 (len + 1) [] w2 rfl (by omega) (by omega) (at_nil _ _)
    rw [List.nil_append] at hadd
    go_wp2_with fail
    refine hadd.mono ?_
    rintro e w3 ⟨g3, rfl, hg3, hr3, hb3⟩
    have ho2' := ho2.below hb3
    replace hb3 := bnext hb2 hb3
    have hg3' := Nat.le_trans hb2.size hg3
    have ho3 := hr3.own (base := w.heap.size) (n := 4) (be_length _ _) hg3' (by omega)
    have hz3 := hb3.size
    go_wp2_with (at_builtin; refine wpList_more _ rfl (.tmp 19) (.tmp 20) rfl rfl w.heap.size _ (be 4 (len + 1)) ([k] ++ l) rfl ho3 a2 (len + 1) c2 rfl hl1 ho2'.at' (by rw [be_length]; omega) hz3 ?_; intro v4 w4 ho4 hg4 _)
    have hb4 := hb3.grown hg4 hz3 (fun k' hk' => (ho3.lt k' hk').1)
    have ho5 := ho2'.kp (Kp.grown hg4) (fun k' hk' e => by have e2 : some g3 = some k' := e; have e3 := Option.some.inj e2; have := (ho2.lt k' hk').2; omega)
    have hcrc := crc_any (len + 1) c2 a2 ([k] ++ l) w4 hl1 (by omega) ho5.at'
    have hl4 : (be 4 (len + 1) ++ ([k] ++ l)).length = len + 5 := by rw [List.length_append, be_length, hl1]; omega
    obtain ⟨a4, c4, rfl, _, hat4⟩ := ho4.form
    rw [hl4]
    go_wp2_with fail
    refine hcrc.mono ?_
    rintro e w5 ⟨rfl, hb5⟩
    have hadd2 := add32_ex a4 c4 (len + 5) (crcOf ([k] ++ l)) (be 4 (len + 1) ++ ([k] ++ l)) w5 hl4 (by omega) (by unfold crcOf; exact moreOf_lt _ _) (hat4.below hb5)
    replace hb5 := bnext hb4 hb5
    go_wp2_with fail
    refine hadd2.mono ?_
    rintro e w6 ⟨g6, rfl, hg6, hr6, hb6⟩
    go_wp2
    go_ret2
    refine ⟨g6, rfl, Nat.le_trans hb5.size hg6, ?_, bnext hb5 hb6⟩
    unfold frameOf
    rw [hl, ← List.append_assoc]
    exact hr6
end Go.Proofs.Ytdhafnmahpafaaa
