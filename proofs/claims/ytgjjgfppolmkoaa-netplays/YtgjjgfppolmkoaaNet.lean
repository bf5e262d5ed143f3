/- What the net's inner calls do: isOne, isFull, bytes.Clone, handedOut, find, add. -/
import Derived.Test.YtgjjgfppolmkoaaPlain
import Derived.Test.YtgjjgfppolmkoaaCat
import Derived.Deep.RegionWith
import Derived.Lib.SliceRun
namespace Go.Proofs.Ytgjjgfppolmkoaa
open Go.RowKit Go.Maps

theorem neq_map (w : World) (x : Option Nat) : (binOp .neq 54 (.map x) (.map none)).run Try.prog w = .ok (.bool x.isSome) w := by
  simp only [binOp]
  simp [show Op.equal 54 (.map x) (.map none) = Op.equalIn (9999 + 1) 54 (.map x) (.map none) from rfl, run_equalIn_map_nil_sl w 9999 54 _ _ x Try.underlying54]

theorem isone_yes {p m last : Nat} {L : List Pk} (w : World) (h : NAt w p m L last) :
    Calls Try.prog 31 #[.pointer (some ⟨p, 0, none⟩)] w fun e w' => e = .returned (.bool true) ∧ w' = w := by
  have c0 := h.c0
  have hq := fun w => neq_map w (some m)
  go_enter Try.func31, Try.ntmps31
  go_wp2
  go_ret
  exact ⟨rfl, rfl⟩

theorem isone_nil (w : World) : Calls Try.prog 31 #[.pointer none] w fun e w' => e = .returned (.bool false) ∧ w' = w := by
  go_enter Try.func31, Try.ntmps31
  go_wp2
  go_ret
  exact ⟨rfl, rfl⟩

theorem isone_zero (p : Nat) (w : World) (c0 : w.cell? ⟨p, 0, none⟩ = some (.map none)) : Calls Try.prog 31 #[.pointer (some ⟨p, 0, none⟩)] w fun e w' => e = .returned (.bool false) ∧ w' = w := by
  have hq := fun w => neq_map w none
  go_enter Try.func31, Try.ntmps31
  go_wp2
  go_ret
  exact ⟨rfl, rfl⟩

theorem isfull_any {p m last : Nat} {L : List Pk} (w : World) (h : NAt w p m L last) :
    Calls Try.prog 32 #[.pointer (some ⟨p, 0, none⟩)] w fun e w' => e = .returned (.bool (decide (256 ≤ L.length))) ∧ w' = w := by
  have c0 := h.c0
  go_enter Try.func32, Try.ntmps32
  go_wp2_with (first
    | (at_len; refine wpList_len_own _ rfl _ 54 rfl 3 31 Try.underlying54 RV m L.length (mapOf L) rfl h.own ?_; rw [mapOf_size])
    | go_in)
  go_ret
  exact ⟨ret_bool (by rw [Bool.eq_iff_iff]; simp; omega), rfl⟩

theorem own_lit0 (w : World) (base : Nat) (hb : base ≤ w.heap.size) : Own (w.alloc (.cells #[] 5)) base (.slice (some ⟨w.heap.size, 0, none⟩) 0 0) [] :=
  ⟨rfl, .inr ⟨w.heap.size, 0, #[], rfl, hb, heap_alloc_new w _, Nat.le_refl _, by simp [maxLen], rfl, rfl⟩⟩

theorem eq_nil_some (w : World) (x : Addr) (n c : Nat) : (binOp .eql 27 (.slice (some x) n c) (.slice none 0 0)).run Try.prog w = .ok (.bool false) w :=
  Lib.run_eql_slice_nil w 27 5 (some x) n c 0 0 Try.underlying27

theorem eq_nil_none (w : World) (n c : Nat) : (binOp .eql 27 (.slice none n c) (.slice none 0 0)).run Try.prog w = .ok (.bool true) w :=
  Lib.run_eql_slice_nil w 27 5 none n c 0 0 Try.underlying27

set_option maxRecDepth 100000 in
theorem bclone_any (a : Option Addr) (cap len : Nat) (l : List UInt8) (w : World) (hl : l.length = len) (hlen : len ≤ 140737488355328) (hat : At w a l) :
    Calls Try.prog 34 #[.slice a len cap] w fun e w' => ∃ a' c', e = .returned (.slice a' len c') ∧ Own w' w.heap.size (.slice a' len c') l ∧ Below w.heap.size w w' := by
  cases a with
  | none =>
    have he : l = [] := by
      rcases l with _ | ⟨x, r⟩
      · rfl
      · obtain ⟨b, o, h, _⟩ := hat (by simp); cases h
    subst he
    subst hl
    have hq := fun w => eq_nil_none w 0 cap
    replace hlen := hid hlen
    replace hat := hid hat
    go_enter Try.func34, Try.ntmps34
    go_wp2
    go_ret
    exact ⟨none, 0, rfl, Own.nil _ _, Below.refl _ _⟩
  | some x =>
    have hq := fun w => eq_nil_some w x len cap
    go_enter Try.func34, Try.ntmps34
    go_wp2_with (at_builtin; refine wpList_app _ rfl (.tmp 5) (.tmp 6) rfl rfl w.heap.size _ [] l rfl (own_lit0 w _ (Nat.le_refl _)) (some x) len cap rfl hl (hat.below (below_lit w _)) (by simp; omega) (by simp) ?_; intro v1 w1 ho1 hb1; obtain ⟨a2, c2, hv2, _, _⟩ := ho1.form; rw [List.nil_append, hl] at hv2; rw [hv2])
    go_ret
    exact ⟨a2, c2, rfl, by rw [← hv2]; exact ho1, ((Below.refl _ w).alloc (Nat.le_refl _) _).trans hb1⟩

/-- A packet in a block. -/
def PBlk (w : World) (g : Nat) (x y z s : Value) : Prop := w.heap[g]? = some (.cells #[x, y, z, s] 31 (0, 0))
theorem PBlk.new (w : World) (x y z s : Value) : PBlk (w.alloc (.cells #[x, y, z, s] 31)) w.heap.size x y z s := heap_alloc_new w _
section
variable {w : World} {g : Nat} {x y z s : Value}
theorem PBlk.lt (h : PBlk w g x y z s) : g < w.heap.size := (Array.getElem?_eq_some_iff.1 h).1
theorem PBlk.below {w' : World} (h : PBlk w g x y z s) (hb : Below w.heap.size w w') : PBlk w' g x y z s := by unfold PBlk; rw [hb.block g h.lt]; exact h
theorem PBlk.cell0 (h : PBlk w g x y z s) : w.cell? ⟨g, 0, none⟩ = some x := by unfold PBlk at h; simp [World.cell?, h]
theorem PBlk.cell1 (h : PBlk w g x y z s) : w.cell? ⟨g, 1, none⟩ = some y := by unfold PBlk at h; simp [World.cell?, h]
theorem PBlk.cell2 (h : PBlk w g x y z s) : w.cell? ⟨g, 2, none⟩ = some z := by unfold PBlk at h; simp [World.cell?, h]
theorem PBlk.cell3 (h : PBlk w g x y z s) : w.cell? ⟨g, 3, none⟩ = some s := by unfold PBlk at h; simp [World.cell?, h]
theorem PBlk.free (h : PBlk w g x y z s) (j : Nat) : w.frozen? ⟨g, j, none⟩ = false := by unfold PBlk at h; simp [World.frozen?, h]
theorem PBlk.other (h : PBlk w g x y z s) (g2 k : Nat) (v : Value) (hne : g2 ≠ g) : PBlk (w.setCell ⟨g2, k, none⟩ v) g x y z s := by
  unfold PBlk at *
  rw [Below.heap_setCell _ _ _ _ (show g ≠ g2 from fun e => hne e.symm)]
  exact h
theorem PBlk.set0 (h : PBlk w g x y z s) (v : Value) : PBlk (w.setCell ⟨g, 0, none⟩ v) g v y z s := by
  unfold PBlk at *; rw [setCell_eq_setRow w g 0 _ 31 (0, 0) _ h, setRow_heap w g _ _ 31 _ h]; simp
theorem PBlk.set1 (h : PBlk w g x y z s) (v : Value) : PBlk (w.setCell ⟨g, 1, none⟩ v) g x v z s := by
  unfold PBlk at *; rw [setCell_eq_setRow w g 1 _ 31 (0, 0) _ h, setRow_heap w g _ _ 31 _ h]; simp
theorem PBlk.set2 (h : PBlk w g x y z s) (v : Value) : PBlk (w.setCell ⟨g, 2, none⟩ v) g x y v s := by
  unfold PBlk at *; rw [setCell_eq_setRow w g 2 _ 31 (0, 0) _ h, setRow_heap w g _ _ 31 _ h]; simp
theorem PBlk.set3 (h : PBlk w g x y z s) (v : Value) : PBlk (w.setCell ⟨g, 3, none⟩ v) g x y z v := by
  unfold PBlk at *; rw [setCell_eq_setRow w g 3 _ 31 (0, 0) _ h, setRow_heap w g _ _ 31 _ h]; simp
theorem PBlk.set (h : PBlk w g x y z s) (a b c d : Value) : PBlk ((((w.setCell ⟨g, 0, none⟩ a).setCell ⟨g, 1, none⟩ b).setCell ⟨g, 2, none⟩ c).setCell ⟨g, 3, none⟩ d) g a b c d := (((h.set0 a).set1 b).set2 c).set3 d
theorem PBlk.others (h : PBlk w g x y z s) (g2 : Nat) (a b c d : Value) (hne : g2 ≠ g) : PBlk ((((w.setCell ⟨g2, 0, none⟩ a).setCell ⟨g2, 1, none⟩ b).setCell ⟨g2, 2, none⟩ c).setCell ⟨g2, 3, none⟩ d) g x y z s :=
  (((h.other g2 0 a hne).other g2 1 b hne).other g2 2 c hne).other g2 3 d hne
end

theorem below_set4 {base : Nat} {a w : World} (h : Below base a w) (g : Nat) (hg : base ≤ g) (x y z s : Value) : Below base a ((((w.setCell ⟨g, 0, none⟩ x).setCell ⟨g, 1, none⟩ y).setCell ⟨g, 2, none⟩ z).setCell ⟨g, 3, none⟩ s) :=
  (((h.setCell (p := ⟨g, 0, none⟩) hg x).setCell (p := ⟨g, 1, none⟩) hg y).setCell (p := ⟨g, 2, none⟩) hg z).setCell (p := ⟨g, 3, none⟩) hg s

theorem info31 : (Try.prog.info? 31).map (·.size) = some 4 := by kernel_rfl

theorem results_p {fn : Func} {p : Tmp} (h : fn.results = #[.cell p 31]) (tmps : Array Value) (w : World) (g : Nat) (x y z s : Value)
    (hp : tmps.getD p undef = .pointer (some ⟨g, 0, none⟩)) (hg : PBlk w g x y z s) :
    (results fn tmps).run Try.prog w = .ok (.agg #[x, y, z, s]) w := by
  have hp' : tmps[p]?.getD undef = .pointer (some ⟨g, 0, none⟩) := by simpa using hp
  simp [results, h, hp', asAddr, run_loadVar_row (P := Try.prog) w g 31 31 _ (0, 0) _ hg Try.underlying31 rfl info31]

theorem results_p2 {fn : Func} {p u : Tmp} (h : fn.results = #[.cell p 31, .tmp u]) (tmps : Array Value) (w : World) (g : Nat) (x y z s : Value)
    (hp : tmps.getD p undef = .pointer (some ⟨g, 0, none⟩)) (hg : PBlk w g x y z s) :
    (results fn tmps).run Try.prog w = .ok (.tuple #[.agg #[x, y, z, s], tmps.getD u undef]) w := by
  have hp' : tmps[p]?.getD undef = .pointer (some ⟨g, 0, none⟩) := by simpa using hp
  simp [results, h, hp', asAddr, run_loadVar_row (P := Try.prog) w g 31 31 _ (0, 0) _ hg Try.underlying31 rfl info31]

set_option maxRecDepth 100000 in
set_option maxHeartbeats 2000000 in
theorem handed_any (x y z : Int) (a : Option Addr) (cap len : Nat) (l : List UInt8) (w : World) (hl : l.length = len) (hlen : len ≤ 140737488355328) (hat : At w a l) :
    Calls Try.prog 36 #[.agg #[.int .i64 x, .int .i64 y, .int .i64 z, .slice a len cap]] w fun e w' => ∃ a' c', e = .returned (.agg #[.int .i64 x, .int .i64 y, .int .i64 z, .slice a' len c']) ∧ Own w' w.heap.size (.slice a' len c') l ∧ Below w.heap.size w w' := by
  have b1 := below_lit w (.cells #[.int .i64 x, .int .i64 y, .int .i64 z, .slice a len cap] 31)
  have p1 := PBlk.new w (.int .i64 x) (.int .i64 y) (.int .i64 z) (.slice a len cap)
  have b2 := below_lit (w.alloc (.cells #[.int .i64 x, .int .i64 y, .int .i64 z, .slice a len cap] 31)) (.cells #[.int .i64 0, .int .i64 0, .int .i64 0, .slice none 0 0] 31)
  have p2 := PBlk.new (w.alloc (.cells #[.int .i64 x, .int .i64 y, .int .i64 z, .slice a len cap] 31)) (.int .i64 0) (.int .i64 0) (.int .i64 0) (.slice none 0 0)
  have es : (w.alloc (.cells #[.int .i64 x, .int .i64 y, .int .i64 z, .slice a len cap] 31)).heap.size = w.heap.size + 1 := by simp
  rw [es] at p2
  replace hl := hid hl
  replace p1 := hid (p1.below b2)
  replace p2 := hid p2
  replace b1 := hid (bnext b1 b2)
  clear b2
  go_enter Try.func36, Try.ntmps36
  go_wp2_with fail
  refine (bclone_any a cap len l _ hl.out hlen (hat.below b1.out)).mono ?_
  rintro e w1 ⟨a', c', rfl, ho, hb⟩
  have q1 := p1.out.below hb
  have q2 := p2.out.below hb
  have hB := bnext b1.out hb
  have hz : w.heap.size + 2 ≤ _ := Nat.le_of_eq (show w.heap.size + 2 = ((w.alloc (.cells #[.int .i64 x, .int .i64 y, .int .i64 z, .slice a len cap] 31)).alloc (.cells #[.int .i64 0, .int .i64 0, .int .i64 0, .slice none 0 0] 31)).heap.size by simp)
  have c0 := q1.cell0
  have c1 := q1.cell1
  have c2 := q1.cell2
  have c3 := q1.cell3
  have f3 := q1.free 3
  have d0 := q2.cell0
  have d1 := q2.cell1
  have d2 := q2.cell2
  have d3 := q2.cell3
  have e0 := q2.free 0
  have e1 := q2.free 1
  have e2 := q2.free 2
  have e3 := q2.free 3
  have r2 := hid ((q2.other w.heap.size 3 (.slice a' len c') (by omega)).set (.int .i64 x) (.int .i64 y) (.int .i64 z) (.slice a' len c'))
  have hB2 := hid (below_set4 (hB.setCell (p := ⟨w.heap.size, 3, none⟩) (Nat.le_refl _) (.slice a' len c')) (w.heap.size + 1) (by omega) (.int .i64 x) (.int .i64 y) (.int .i64 z) (.slice a' len c'))
  have ho2 := hid ho
  replace q1 := hid q1
  replace q2 := hid q2
  clear ho
  go_wp2
  (try simp only [Exit.inBlock, Exit.then])
  refine bodyPost_ret (results_p rfl _ _ (w.heap.size + 1) _ _ _ _ rfl r2.out) rfl ?_
  refine ⟨a', c', rfl, ?_, hB2.out⟩
  have hk : Kp (fun k => k = w.heap.size ∨ k = w.heap.size + 1) w1 _ := (((((Kp.refl _ w1).setCell (p := ⟨w.heap.size, 3, none⟩) (.inl rfl) (.slice a' len c')).setCell (p := ⟨w.heap.size + 1, 0, none⟩) (.inr rfl) (.int .i64 x)).setCell (p := ⟨w.heap.size + 1, 1, none⟩) (.inr rfl) (.int .i64 y)).setCell (p := ⟨w.heap.size + 1, 2, none⟩) (.inr rfl) (.int .i64 z)).setCell (p := ⟨w.heap.size + 1, 3, none⟩) (.inr rfl) (.slice a' len c')
  exact ((ho2.out.kp hk (fun k hk e => by have := (ho2.out.lt k hk).1; omega))).le (by omega)

end Go.Proofs.Ytgjjgfppolmkoaa
