/- What the net's find does. -/
import Derived.Test.YtgjjgfppolmkoaaNet
namespace Go.Proofs.Ytgjjgfppolmkoaa
open Go.RowKit Go.Maps

set_option maxRecDepth 100000 in
set_option maxHeartbeats 400000 in
theorem find_yes {p m last : Nat} {L : List Pk} (k : Int) (q : Pk) (w : World) (h : NAt w p m L last) (hk : (Lit.int .i64 k).wf = true) (hf : findP L k = some q) :
    Calls Try.prog 35 #[.pointer (some ⟨p, 0, none⟩), .int .i64 k] w fun e w' => e = .returned (.tuple #[q.val, .int .i64 0]) ∧ Below w.heap.size w w' := by
  obtain ⟨num, fr, to, a, c, body⟩ := q
  have b1 := below_lit w (.cells #[.int .i64 0, .int .i64 0, .int .i64 0, .slice none 0 0] 31)
  have h1 := h.below b1
  have p1 := PBlk.new w (.int .i64 0) (.int .i64 0) (.int .i64 0) (.slice none 0 0)
  have c0 := h1.c0
  have hlook := look_some h1 hk hf
  unfold Pk.val at hlook ⊢
  simp only at hlook ⊢
  generalize body.length = len at hlook ⊢
  have r1 := hid ((PBlk.new w (.int .i64 num) (.int .i64 fr) (.int .i64 to) (.slice a len c)).below (below_lit _ (.cells #[.int .i64 num, .int .i64 fr, .int .i64 to, .slice a len c] 31)))
  have hB := hid (bnext (below_lit w (.cells #[.int .i64 num, .int .i64 fr, .int .i64 to, .slice a len c] 31)) (below_lit _ (.cells #[.int .i64 num, .int .i64 fr, .int .i64 to, .slice a len c] 31)))
  clear p1
  have hp1 := hid h1
  clear h h1 b1 hf hk
  go_enter Try.func35, Try.ntmps35
  go_wp2_with fail
  refine (isone_yes _ hp1.out).mono ?_
  rintro e w1 ⟨rfl, rfl⟩
  go_wp2
  (try simp only [Exit.inBlock, Exit.then])
  refine bodyPost_ret (results_p2 rfl _ _ w.heap.size _ _ _ _ rfl r1.out) rfl ?_
  exact ⟨rfl, hB.out⟩

set_option maxRecDepth 100000 in
set_option maxHeartbeats 400000 in
theorem find_no {p m last : Nat} {L : List Pk} (k : Int) (w : World) (h : NAt w p m L last) (hk : (Lit.int .i64 k).wf = true) (hf : findP L k = none) :
    Calls Try.prog 35 #[.pointer (some ⟨p, 0, none⟩), .int .i64 k] w fun e w' => e = .returned (.tuple #[zeroV, .int .i64 80]) ∧ Below w.heap.size w w' := by
  have b1 := below_lit w (.cells #[.int .i64 0, .int .i64 0, .int .i64 0, .slice none 0 0] 31)
  have h1 := h.below b1
  have p1 := PBlk.new w (.int .i64 0) (.int .i64 0) (.int .i64 0) (.slice none 0 0)
  have c0 := h1.c0
  have hlook := look_none h1 hk hf
  unfold zeroV at hlook ⊢
  have r1 := hid (p1.below (below_lit _ (.cells #[.int .i64 0, .int .i64 0, .int .i64 0, .slice none 0 0] 31)))
  have hB := hid (bnext b1 (below_lit _ (.cells #[.int .i64 0, .int .i64 0, .int .i64 0, .slice none 0 0] 31)))
  clear p1
  have hp1 := hid h1
  clear h h1 b1 hf hk
  go_enter Try.func35, Try.ntmps35
  go_wp2_with fail
  refine (isone_yes _ hp1.out).mono ?_
  rintro e w1 ⟨rfl, rfl⟩
  go_wp2
  (try simp only [Exit.inBlock, Exit.then])
  refine bodyPost_ret (results_p2 rfl _ _ w.heap.size _ _ _ _ rfl r1.out) rfl ?_
  exact ⟨rfl, hB.out⟩

/-- Of a net that New and Copy did not make: v is nil, or leads to a net whose map is nil. -/
def NNone (w : World) (v : Value) : Prop := v = .pointer none ∨ ∃ p, v = .pointer (some ⟨p, 0, none⟩) ∧ w.cell? ⟨p, 0, none⟩ = some (.map none)

theorem NNone.below {w w' : World} {v : Value} (h : NNone w v) (hb : Below w.heap.size w w') : NNone w' v := by
  rcases h with rfl | ⟨p, rfl, h⟩
  · exact .inl rfl
  · refine .inr ⟨p, rfl, ?_⟩
    rw [hb.cell (p := ⟨p, 0, none⟩) (World.block_lt_of_cell? w _ h)]
    exact h

theorem isone_none (v : Value) (w : World) (h : NNone w v) : Calls Try.prog 31 #[v] w fun e w' => e = .returned (.bool false) ∧ w' = w := by
  rcases h with rfl | ⟨p, rfl, h⟩
  · exact isone_nil w
  · exact isone_zero p w h

set_option maxRecDepth 100000 in
set_option maxHeartbeats 400000 in
theorem find_none (v : Value) (k : Int) (w : World) (h : NNone w v) :
    Calls Try.prog 35 #[v, .int .i64 k] w fun e w' => e = .returned (.tuple #[zeroV, .int .i64 1]) ∧ Below w.heap.size w w' := by
  have b1 := below_lit w (.cells #[.int .i64 0, .int .i64 0, .int .i64 0, .slice none 0 0] 31)
  have hn := hid (h.below b1)
  have p1 := PBlk.new w (.int .i64 0) (.int .i64 0) (.int .i64 0) (.slice none 0 0)
  have r1 := hid p1
  have hB := hid b1
  clear h b1 p1
  unfold zeroV
  go_enter Try.func35, Try.ntmps35
  go_wp2_with fail
  refine (isone_none _ _ hn.out).mono ?_
  rintro e w1 ⟨rfl, rfl⟩
  go_wp2
  (try simp only [Exit.inBlock, Exit.then])
  refine bodyPost_ret (results_p2 rfl _ _ w.heap.size _ _ _ _ rfl r1.out) rfl ?_
  exact ⟨rfl, hB.out⟩

end Go.Proofs.Ytgjjgfppolmkoaa
