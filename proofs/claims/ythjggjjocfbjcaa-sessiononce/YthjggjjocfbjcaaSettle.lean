/- settled and judged. -/
import Derived.Test.YthjggjjocfbjcaaDel
namespace Go.Proofs.Ythjggjjocfbjcaa
open Go.RowKit

/-- What settled leaves. -/
def SetPost (id M : Int) (base : Nat) (v : Value) (ks : List KV) (w : World) (e : Ending) (w' : World) : Prop :=
  ∃ a' c', e = .returned (.agg #[.int .i64 id, .int .i64 M, .slice a' (ks.filter fun k => !decide (k.num ≤ M)).length c']) ∧ KOwn 36 w' base (.slice a' (ks.filter fun k => !decide (k.num ≤ M)).length c') (ks.filter fun k => !decide (k.num ≤ M)) ∧ Kp (fun g => v.ownBlock = some g) w w' ∧ (∀ x, a' = some x → v.ownBlock = some x.block)

set_option maxRecDepth 100000 in
set_option maxHeartbeats 1000000 in
theorem settled_M (id fl acked M : Int) (hM : (acked ≤ fl ∧ M = fl) ∨ (fl < acked ∧ M = acked)) (a : Option Addr) (n c base : Nat) (ks : List KV) (w : World) (hl : ks.length = n) (hn : n ≤ 8) (h : KOwn 36 w base (.slice a n c) ks) :
    Calls Try.prog 40 #[.agg #[.int .i64 id, .int .i64 fl, .slice a n c], .int .i64 acked] w (SetPost id M base (.slice a n c) ks w) := by
  have b1 := below_lit w (.cells #[.int .i64 id, .int .i64 M, .slice a n c] 34)
  have p1 := CBlk.new w (.int .i64 id) (.int .i64 M) (.slice a n c)
  have b2 := below_lit (w.alloc (.cells #[.int .i64 id, .int .i64 M, .slice a n c] 34)) (.cells #[.int .i64 0, .int .i64 0, .slice none 0 0] 34)
  have p2 := CBlk.new (w.alloc (.cells #[.int .i64 id, .int .i64 M, .slice a n c] 34)) (.int .i64 0) (.int .i64 0) (.slice none 0 0)
  have es : (w.alloc (.cells #[.int .i64 id, .int .i64 M, .slice a n c] 34)).heap.size = w.heap.size + 1 := by simp
  have hz : w.heap.size + 2 ≤ _ := Nat.le_of_eq (show w.heap.size + 2 = ((w.alloc (.cells #[.int .i64 id, .int .i64 M, .slice a n c] 34)).alloc (.cells #[.int .i64 0, .int .i64 0, .slice none 0 0] 34)).heap.size by simp)
  rw [es] at p2
  replace hl := hid hl
  replace p1 := hid (p1.below b2)
  replace p2 := hid p2
  replace b1 := hid (bnext b1 b2)
  clear b2
  have hlt : ∀ k, (Value.slice a n c).ownBlock = some k → k < w.heap.size := fun k hk => (World.ownsRow.lt h.row k hk).2
  have hql := p1.out.cell1
  obtain ⟨F, hF⟩ : ∃ F, F = (ks.filter fun k => !decide (k.num ≤ M)) := ⟨_, rfl⟩
  replace hz := hid hz
  have main : ∀ {Q : Ending → World → Prop}, (∀ e w', (∃ v', e = .returned v' ∧ KOwn 36 w' base v' F ∧ Kp (fun g => (Value.slice a n c).ownBlock = some g) ((w.alloc (.cells #[.int .i64 id, .int .i64 M, .slice a n c] 34)).alloc (.cells #[.int .i64 0, .int .i64 0, .slice none 0 0] 34)) w' ∧ v'.ownBlock = (Value.slice a n c).ownBlock) → Q e w') → Calls Try.prog 64 #[.slice a n c, .func (.func 63) #[] #[.pointer (some ⟨w.heap.size, 0, none⟩)]] ((w.alloc (.cells #[.int .i64 id, .int .i64 M, .slice a n c] 34)).alloc (.cells #[.int .i64 0, .int .i64 0, .slice none 0 0] 34)) Q := fun hQ =>
    (del_k a n c w.heap.size base M ks _ hl.out (by omega) (h.below b1.out) (fun e => by have := hlt _ e; omega) hql).mono (hF ▸ hQ)
  replace hF := hid hF
  replace hql := hid hql
  replace main := @main
  rcases hM with ⟨hM, rfl⟩ | ⟨hM, rfl⟩
  all_goals
    go_enter Try.func40, Try.ntmps40
    go_wp2_with fail
    refine main ?_
    rintro e w1 ⟨v, rfl, ho, hk, hv⟩
    obtain ⟨a', c', rfl, hc'⟩ := owns_form ho.row
    have q1 := p1.out.kp hk (fun e => by have := hlt _ e; omega)
    have q2 := p2.out.kp hk (fun e => by have := hlt _ e; omega)
    have c0 := q1.cell0
    have c1 := q1.cell1
    have c2 := q1.cell2
    have f2 := q1.free 2
    have d0 := q2.cell0
    have d1 := q2.cell1
    have d2 := q2.cell2
    have e0 := q2.free 0
    have e1 := q2.free 1
    have e2 := q2.free 2
    have hsz := Nat.le_trans hz.out hk.size
    obtain ⟨m, hm⟩ : ∃ m, m = F.length := ⟨_, rfl⟩
    rw [← hm] at ho hv ⊢
    have r2 := hid ((((q2.other w.heap.size 2 (.slice a' m c') (by omega)).set0 (.int .i64 id)).set1 (.int .i64 M)).set2 (.slice a' m c'))
    have hkk : Kp (fun g => (Value.slice a n c).ownBlock = some g ∨ w.heap.size ≤ g) w _ := ((((Kp.next (Kp.of_below (S := fun g => (Value.slice a n c).ownBlock = some g ∨ w.heap.size ≤ g) b1.out) hk (fun _ _ h => .inl h)).setCell (p := ⟨w.heap.size, 2, none⟩) (.inr (Nat.le_refl _)) (.slice a' m c')).setCell (p := ⟨w.heap.size + 1, 0, none⟩) (.inr (Nat.le_succ _)) (.int .i64 id)).setCell (p := ⟨w.heap.size + 1, 1, none⟩) (.inr (Nat.le_succ _)) (.int .i64 M)).setCell (p := ⟨w.heap.size + 1, 2, none⟩) (.inr (Nat.le_succ _)) (.slice a' m c')
    have hk2 : Kp (fun k => k = w.heap.size ∨ k = w.heap.size + 1) w1 _ := ((((Kp.refl _ w1).setCell (p := ⟨w.heap.size, 2, none⟩) (.inl rfl) (.slice a' m c')).setCell (p := ⟨w.heap.size + 1, 0, none⟩) (.inr rfl) (.int .i64 id)).setCell (p := ⟨w.heap.size + 1, 1, none⟩) (.inr rfl) (.int .i64 M)).setCell (p := ⟨w.heap.size + 1, 2, none⟩) (.inr rfl) (.slice a' m c')
    have hbl : ∀ q ∈ F, ∀ k, (Value.slice q.a q.body.length q.c).ownBlock = some k → k < w.heap.size := fun q hq k hk' => ((h.own q (List.mem_filter.1 (hF.out ▸ hq)).1).lt k hk').2
    have ho2 := hid (ho.kp hk2 (fun k hk' e => by rw [hv] at hk'; have := hlt _ hk'; omega) (fun q hq k hk' e => by have := hbl q hq k hk'; omega))
    replace hkk := hid hkk
    replace hk2 := hid hk2
    replace hm := hid hm
    replace hv := hid hv
    replace q1 := hid q1
    replace q2 := hid q2
    clear ho
    go_wp2
    (try simp only [Exit.inBlock, Exit.then])
    refine bodyPost_ret (results_c rfl _ _ (w.heap.size + 1) _ _ _ rfl r2.out) rfl ?_
    refine ⟨a', c', by rw [← hF.out, ← hm.out], by rw [← hF.out, ← hm.out]; exact ho2.out, ?_, fun x hx => by rw [← hv.out, hx]; rfl⟩
    exact hkk.out.mono (fun k hk' h => by rcases h with h | h; exact h; omega)

theorem settled_any (id fl acked : Int) (a : Option Addr) (n c base : Nat) (ks : List KV) (w : World) (hl : ks.length = n) (hn : n ≤ 8) (h : KOwn 36 w base (.slice a n c) ks) :
    Calls Try.prog 40 #[.agg #[.int .i64 id, .int .i64 fl, .slice a n c], .int .i64 acked] w (SetPost id (max fl acked) base (.slice a n c) ks w) := by
  refine settled_M id fl acked _ ?_ a n c base ks w hl hn h
  rcases Int.lt_or_le fl acked with h1 | h1
  · exact .inr ⟨h1, by omega⟩
  · exact .inl ⟨h1, by omega⟩

end Go.Proofs.Ythjggjjocfbjcaa
