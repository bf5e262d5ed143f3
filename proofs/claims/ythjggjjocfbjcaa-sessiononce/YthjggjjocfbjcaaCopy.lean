/- Copies: bytes.Clone, what is kept, what waits, clients. -/
import Derived.Test.YthjggjjocfbjcaaGet
namespace Go.Proofs.Ythjggjjocfbjcaa
open Go.RowKit

theorem own_lit0 (w : World) (base : Nat) (hb : base ≤ w.heap.size) : Own (w.alloc (.cells #[] 5)) base (.slice (some ⟨w.heap.size, 0, none⟩) 0 0) [] :=
  ⟨rfl, .inr ⟨w.heap.size, 0, #[], rfl, hb, heap_alloc_new w _, Nat.le_refl _, by simp [maxLen], rfl, rfl⟩⟩

theorem eq_nil_some (w : World) (x : Addr) (n c : Nat) : (binOp .eql 24 (.slice (some x) n c) (.slice none 0 0)).run Try.prog w = .ok (.bool false) w :=
  Lib.run_eql_slice_nil w 24 5 (some x) n c 0 0 Try.underlying24

theorem eq_nil_none (w : World) (n c : Nat) : (binOp .eql 24 (.slice none n c) (.slice none 0 0)).run Try.prog w = .ok (.bool true) w :=
  Lib.run_eql_slice_nil w 24 5 none n c 0 0 Try.underlying24

set_option maxRecDepth 100000 in
theorem bclone_any (a : Option Addr) (cap len : Nat) (l : List UInt8) (w : World) (hl : l.length = len) (hlen : len ≤ 140737488355328) (hat : At w a l) :
    Calls Try.prog 44 #[.slice a len cap] w fun e w' => ∃ a' c', e = .returned (.slice a' len c') ∧ Own w' w.heap.size (.slice a' len c') l ∧ Below w.heap.size w w' := by
  cases a with
  | none =>
    have he : l = [] := by
      rcases l with _ | ⟨x, r⟩
      · rfl
      · obtain ⟨b, o, h, _⟩ := hat (by simp); cases h
    subst he
    subst hl
    have hq := fun w => eq_nil_none w 0 cap
    replace hlen := hid hlen
    replace hat := hid hat
    go_enter Try.func44, Try.ntmps44
    go_wp2
    go_ret
    exact ⟨none, 0, rfl, Own.nil _ _, Below.refl _ _⟩
  | some x =>
    have hq := fun w => eq_nil_some w x len cap
    go_enter Try.func44, Try.ntmps44
    go_wp2_with (at_builtin; refine wpList_app _ rfl (.tmp 5) (.tmp 6) rfl rfl w.heap.size _ [] l rfl (own_lit0 w _ (Nat.le_refl _)) (some x) len cap rfl hl (hat.below (below_lit w _)) (by simp; omega) (by simp) ?_; intro v1 w1 ho1 hb1; obtain ⟨a2, c2, hv2, _, _⟩ := ho1.form; rw [List.nil_append, hl] at hv2; rw [hv2])
    go_ret
    exact ⟨a2, c2, rfl, by rw [← hv2]; exact ho1, ((Below.refl _ w).alloc (Nat.le_refl _) _).trans hb1⟩

/-- A struct of two cells in a block. -/
def TBlk (e : Nat) (w : World) (g : Nat) (x y : Value) : Prop := w.heap[g]? = some (.cells #[x, y] e (0, 0))
theorem TBlk.new (e : Nat) (w : World) (x y : Value) : TBlk e (w.alloc (.cells #[x, y] e)) w.heap.size x y := heap_alloc_new w _
section
variable {e : Nat} {w : World} {g : Nat} {x y : Value}
theorem TBlk.lt (h : TBlk e w g x y) : g < w.heap.size := (Array.getElem?_eq_some_iff.1 h).1
theorem TBlk.below {w' : World} (h : TBlk e w g x y) (hb : Below w.heap.size w w') : TBlk e w' g x y := by unfold TBlk; rw [hb.block g h.lt]; exact h
theorem TBlk.cell0 (h : TBlk e w g x y) : w.cell? ⟨g, 0, none⟩ = some x := by unfold TBlk at h; simp [World.cell?, h]
theorem TBlk.cell1 (h : TBlk e w g x y) : w.cell? ⟨g, 1, none⟩ = some y := by unfold TBlk at h; simp [World.cell?, h]
theorem TBlk.free (h : TBlk e w g x y) (j : Nat) : w.frozen? ⟨g, j, none⟩ = false := by unfold TBlk at h; simp [World.frozen?, h]
theorem TBlk.other (h : TBlk e w g x y) (g2 k : Nat) (v : Value) (hne : g2 ≠ g) : TBlk e (w.setCell ⟨g2, k, none⟩ v) g x y := by
  unfold TBlk at *
  rw [Below.heap_setCell _ _ _ _ (show g ≠ g2 from fun e => hne e.symm)]
  exact h
theorem TBlk.set0 (h : TBlk e w g x y) (v : Value) : TBlk e (w.setCell ⟨g, 0, none⟩ v) g v y := by
  unfold TBlk at *; rw [setCell_eq_setRow w g 0 _ e (0, 0) _ h, setRow_heap w g _ _ e _ h]; simp
theorem TBlk.set1 (h : TBlk e w g x y) (v : Value) : TBlk e (w.setCell ⟨g, 1, none⟩ v) g x v := by
  unfold TBlk at *; rw [setCell_eq_setRow w g 1 _ e (0, 0) _ h, setRow_heap w g _ _ e _ h]; simp
end

/-- A client in a block. -/
def CBlk (w : World) (g : Nat) (x y z : Value) : Prop := w.heap[g]? = some (.cells #[x, y, z] 34 (0, 0))
theorem CBlk.new (w : World) (x y z : Value) : CBlk (w.alloc (.cells #[x, y, z] 34)) w.heap.size x y z := heap_alloc_new w _
section
variable {w : World} {g : Nat} {x y z : Value}
theorem CBlk.lt (h : CBlk w g x y z) : g < w.heap.size := (Array.getElem?_eq_some_iff.1 h).1
theorem CBlk.below {w' : World} (h : CBlk w g x y z) (hb : Below w.heap.size w w') : CBlk w' g x y z := by unfold CBlk; rw [hb.block g h.lt]; exact h
theorem CBlk.cell0 (h : CBlk w g x y z) : w.cell? ⟨g, 0, none⟩ = some x := by unfold CBlk at h; simp [World.cell?, h]
theorem CBlk.cell1 (h : CBlk w g x y z) : w.cell? ⟨g, 1, none⟩ = some y := by unfold CBlk at h; simp [World.cell?, h]
theorem CBlk.cell2 (h : CBlk w g x y z) : w.cell? ⟨g, 2, none⟩ = some z := by unfold CBlk at h; simp [World.cell?, h]
theorem CBlk.free (h : CBlk w g x y z) (j : Nat) : w.frozen? ⟨g, j, none⟩ = false := by unfold CBlk at h; simp [World.frozen?, h]
theorem CBlk.other (h : CBlk w g x y z) (g2 k : Nat) (v : Value) (hne : g2 ≠ g) : CBlk (w.setCell ⟨g2, k, none⟩ v) g x y z := by
  unfold CBlk at *
  rw [Below.heap_setCell _ _ _ _ (show g ≠ g2 from fun e => hne e.symm)]
  exact h
theorem CBlk.set0 (h : CBlk w g x y z) (v : Value) : CBlk (w.setCell ⟨g, 0, none⟩ v) g v y z := by
  unfold CBlk at *; rw [setCell_eq_setRow w g 0 _ 34 (0, 0) _ h, setRow_heap w g _ _ 34 _ h]; simp
theorem CBlk.set1 (h : CBlk w g x y z) (v : Value) : CBlk (w.setCell ⟨g, 1, none⟩ v) g x v z := by
  unfold CBlk at *; rw [setCell_eq_setRow w g 1 _ 34 (0, 0) _ h, setRow_heap w g _ _ 34 _ h]; simp
theorem CBlk.set2 (h : CBlk w g x y z) (v : Value) : CBlk (w.setCell ⟨g, 2, none⟩ v) g x y v := by
  unfold CBlk at *; rw [setCell_eq_setRow w g 2 _ 34 (0, 0) _ h, setRow_heap w g _ _ 34 _ h]; simp
theorem CBlk.kp {S : Nat → Prop} {w' : World} (h : CBlk w g x y z) (hk : Kp S w w') (hn : ¬ S g) : CBlk w' g x y z := by unfold CBlk; rw [hk.block g h.lt hn]; exact h
end

theorem info34 : (Try.prog.info? 34).map (·.size) = some 3 := by kernel_rfl
theorem info36 : (Try.prog.info? 36).map (·.size) = some 2 := by kernel_rfl
theorem info69 : (Try.prog.info? 69).map (·.size) = some 2 := by kernel_rfl
theorem info34z : (Try.prog.info? 34).map (fun i => (i.zero, i.size, i.bytes)) = some (some (.agg #[.int .i64 0, .int .i64 0, .slice none 0 0]), 3, 40) := by kernel_rfl
theorem info36z : (Try.prog.info? 36).map (fun i => (i.zero, i.size, i.bytes)) = some (some (.agg #[.int .i64 0, .slice none 0 0]), 2, 32) := by kernel_rfl
theorem info69z : (Try.prog.info? 69).map (fun i => (i.zero, i.size, i.bytes)) = some (some (.agg #[.int .i64 0, .slice none 0 0]), 2, 32) := by kernel_rfl

theorem results_t36 {fn : Func} {p : Tmp} (h : fn.results = #[.cell p 36]) (tmps : Array Value) (w : World) (g : Nat) (x y : Value)
    (hp : tmps.getD p undef = .pointer (some ⟨g, 0, none⟩)) (hg : TBlk 36 w g x y) :
    (results fn tmps).run Try.prog w = .ok (.agg #[x, y]) w := by
  have hp' : tmps[p]?.getD undef = .pointer (some ⟨g, 0, none⟩) := by simpa using hp
  simp [results, h, hp', asAddr, run_loadVar_row (P := Try.prog) w g 36 36 _ (0, 0) _ hg Try.underlying36 rfl info36]

theorem results_t69 {fn : Func} {p : Tmp} (h : fn.results = #[.cell p 69]) (tmps : Array Value) (w : World) (g : Nat) (x y : Value)
    (hp : tmps.getD p undef = .pointer (some ⟨g, 0, none⟩)) (hg : TBlk 69 w g x y) :
    (results fn tmps).run Try.prog w = .ok (.agg #[x, y]) w := by
  have hp' : tmps[p]?.getD undef = .pointer (some ⟨g, 0, none⟩) := by simpa using hp
  simp [results, h, hp', asAddr, run_loadVar_row (P := Try.prog) w g 69 69 _ (0, 0) _ hg Try.underlying69 rfl info69]

theorem results_c {fn : Func} {p : Tmp} (h : fn.results = #[.cell p 34]) (tmps : Array Value) (w : World) (g : Nat) (x y z : Value)
    (hp : tmps.getD p undef = .pointer (some ⟨g, 0, none⟩)) (hg : CBlk w g x y z) :
    (results fn tmps).run Try.prog w = .ok (.agg #[x, y, z]) w := by
  have hp' : tmps[p]?.getD undef = .pointer (some ⟨g, 0, none⟩) := by simpa using hp
  simp [results, h, hp', asAddr, run_loadVar_row (P := Try.prog) w g 34 34 _ (0, 0) _ hg Try.underlying34 rfl info34]

theorem KOwn.more {e : Nat} {w w2 w3 : World} {base : Nat} {v v' : Value} {Q : List KV} {q : KV} (he : e ≠ 5) (h : KOwn e w base v Q) (hb2 : Below w.heap.size w w2) (hq : Own w2 w.heap.size (.slice q.a q.body.length q.c) q.body) (hs : q.body.length ≤ SMALL) (hbase : base ≤ w.heap.size)
    (hr : w3.ownsRow base e 2 v' (Q.length + 1) (Q.flatMap KV.cells ++ q.cells)) (hg : w2.grownBy w3 v.ownBlock) : KOwn e w3 base v' (Q ++ [q]) := by
  have kg := Kp.grown hg
  refine ⟨by simpa using hr, ?_, ?_⟩
  · intro p hp
    rcases List.mem_append.1 hp with hp | hp
    · exact ((h.own p hp).below hb2).kp kg (own_off (h.own p hp) h.row he)
    · simp at hp; subst hp
      refine (hq.le hbase).kp kg (fun k hk e => ?_)
      have h1 := (hq.lt k hk).1
      have h2 := (World.ownsRow.lt h.row k e).2
      omega
  · intro p hp
    rcases List.mem_append.1 hp with hp | hp
    · exact h.short p hp
    · simp at hp; subst hp; exact hs

theorem kflat_snoc {Q : List KV} {L : List KV} {j : Nat} (hj : j < L.length) (q : KV) (h : Q.map KV.flat = (L.take j).map KV.flat) (hq : q.flat = L[j].flat) : (Q ++ [q]).map KV.flat = (L.take (j + 1)).map KV.flat := by
  rw [List.take_succ_eq_append_getElem hj, List.map_append, List.map_append, h]
  simp [hq]

theorem cflat_snoc {Q : List CV} {L : List CV} {j : Nat} (hj : j < L.length) (q : CV) (h : Q.map CV.flat = (L.take j).map CV.flat) (hq : q.flat = L[j].flat) : (Q ++ [q]).map CV.flat = (L.take (j + 1)).map CV.flat := by
  rw [List.take_succ_eq_append_getElem hj, List.map_append, List.map_append, h]
  simp [hq]

set_option maxRecDepth 100000 in
set_option maxHeartbeats 2000000 in
theorem kapart_any (x : Int) (a : Option Addr) (cap len : Nat) (l : List UInt8) (w : World) (hl : l.length = len) (hlen : len ≤ 140737488355328) (hat : At w a l) :
    Calls Try.prog 60 #[.agg #[.int .i64 x, .slice a len cap]] w fun e w' => ∃ a' c', e = .returned (.agg #[.int .i64 x, .slice a' len c']) ∧ Own w' w.heap.size (.slice a' len c') l ∧ Below w.heap.size w w' := by
  have b1 := below_lit w (.cells #[.int .i64 x, .slice a len cap] 36)
  have p1 := TBlk.new 36 w (.int .i64 x) (.slice a len cap)
  have b2 := below_lit (w.alloc (.cells #[.int .i64 x, .slice a len cap] 36)) (.cells #[.int .i64 0, .slice none 0 0] 36)
  have p2 := TBlk.new 36 (w.alloc (.cells #[.int .i64 x, .slice a len cap] 36)) (.int .i64 0) (.slice none 0 0)
  have es : (w.alloc (.cells #[.int .i64 x, .slice a len cap] 36)).heap.size = w.heap.size + 1 := by simp
  rw [es] at p2
  replace hl := hid hl
  replace p1 := hid (p1.below b2)
  replace p2 := hid p2
  replace b1 := hid (bnext b1 b2)
  clear b2
  go_enter Try.func60, Try.ntmps60
  go_wp2_with fail
  refine (bclone_any a cap len l _ hl.out hlen (hat.below b1.out)).mono ?_
  rintro e w1 ⟨a', c', rfl, ho, hb⟩
  have q1 := p1.out.below hb
  have q2 := p2.out.below hb
  have hB := bnext b1.out hb
  have hz : w.heap.size + 2 ≤ _ := Nat.le_of_eq (show w.heap.size + 2 = ((w.alloc (.cells #[.int .i64 x, .slice a len cap] 36)).alloc (.cells #[.int .i64 0, .slice none 0 0] 36)).heap.size by simp)
  have c0 := q1.cell0
  have c1 := q1.cell1
  have f1 := q1.free 1
  have d0 := q2.cell0
  have d1 := q2.cell1
  have e0 := q2.free 0
  have e1 := q2.free 1
  have r2 := hid (((q2.other w.heap.size 1 (.slice a' len c') (by omega)).set0 (.int .i64 x)).set1 (.slice a' len c'))
  have hB2 := hid (((hB.setCell (p := ⟨w.heap.size, 1, none⟩) (Nat.le_refl _) (.slice a' len c')).setCell (p := ⟨w.heap.size + 1, 0, none⟩) (Nat.le_succ _) (.int .i64 x)).setCell (p := ⟨w.heap.size + 1, 1, none⟩) (Nat.le_succ _) (.slice a' len c'))
  have ho2 := hid ho
  replace q1 := hid q1
  replace q2 := hid q2
  clear ho
  go_wp2
  (try simp only [Exit.inBlock, Exit.then])
  refine bodyPost_ret (results_t36 rfl _ _ (w.heap.size + 1) _ _ rfl r2.out) rfl ?_
  refine ⟨a', c', rfl, ?_, hB2.out⟩
  have hk : Kp (fun k => k = w.heap.size ∨ k = w.heap.size + 1) w1 _ := (((Kp.refl _ w1).setCell (p := ⟨w.heap.size, 1, none⟩) (.inl rfl) (.slice a' len c')).setCell (p := ⟨w.heap.size + 1, 0, none⟩) (.inr rfl) (.int .i64 x)).setCell (p := ⟨w.heap.size + 1, 1, none⟩) (.inr rfl) (.slice a' len c')
  exact ((ho2.out.kp hk (fun k hk e => by have := (ho2.out.lt k hk).1; omega))).le (by omega)

set_option maxRecDepth 100000 in
set_option maxHeartbeats 2000000 in
theorem wapart_any (x : Int) (a : Option Addr) (cap len : Nat) (l : List UInt8) (w : World) (hl : l.length = len) (hlen : len ≤ 140737488355328) (hat : At w a l) :
    Calls Try.prog 49 #[.agg #[.int .i64 x, .slice a len cap]] w fun e w' => ∃ a' c', e = .returned (.agg #[.int .i64 x, .slice a' len c']) ∧ Own w' w.heap.size (.slice a' len c') l ∧ Below w.heap.size w w' := by
  have b1 := below_lit w (.cells #[.int .i64 x, .slice a len cap] 69)
  have p1 := TBlk.new 69 w (.int .i64 x) (.slice a len cap)
  have b2 := below_lit (w.alloc (.cells #[.int .i64 x, .slice a len cap] 69)) (.cells #[.int .i64 0, .slice none 0 0] 69)
  have p2 := TBlk.new 69 (w.alloc (.cells #[.int .i64 x, .slice a len cap] 69)) (.int .i64 0) (.slice none 0 0)
  have es : (w.alloc (.cells #[.int .i64 x, .slice a len cap] 69)).heap.size = w.heap.size + 1 := by simp
  rw [es] at p2
  replace hl := hid hl
  replace p1 := hid (p1.below b2)
  replace p2 := hid p2
  replace b1 := hid (bnext b1 b2)
  clear b2
  go_enter Try.func49, Try.ntmps49
  go_wp2_with fail
  refine (bclone_any a cap len l _ hl.out hlen (hat.below b1.out)).mono ?_
  rintro e w1 ⟨a', c', rfl, ho, hb⟩
  have q1 := p1.out.below hb
  have q2 := p2.out.below hb
  have hB := bnext b1.out hb
  have hz : w.heap.size + 2 ≤ _ := Nat.le_of_eq (show w.heap.size + 2 = ((w.alloc (.cells #[.int .i64 x, .slice a len cap] 69)).alloc (.cells #[.int .i64 0, .slice none 0 0] 69)).heap.size by simp)
  have c0 := q1.cell0
  have c1 := q1.cell1
  have f1 := q1.free 1
  have d0 := q2.cell0
  have d1 := q2.cell1
  have e0 := q2.free 0
  have e1 := q2.free 1
  have r2 := hid (((q2.other w.heap.size 1 (.slice a' len c') (by omega)).set0 (.int .i64 x)).set1 (.slice a' len c'))
  have hB2 := hid (((hB.setCell (p := ⟨w.heap.size, 1, none⟩) (Nat.le_refl _) (.slice a' len c')).setCell (p := ⟨w.heap.size + 1, 0, none⟩) (Nat.le_succ _) (.int .i64 x)).setCell (p := ⟨w.heap.size + 1, 1, none⟩) (Nat.le_succ _) (.slice a' len c'))
  have ho2 := hid ho
  replace q1 := hid q1
  replace q2 := hid q2
  clear ho
  go_wp2
  (try simp only [Exit.inBlock, Exit.then])
  refine bodyPost_ret (results_t69 rfl _ _ (w.heap.size + 1) _ _ rfl r2.out) rfl ?_
  refine ⟨a', c', rfl, ?_, hB2.out⟩
  have hk : Kp (fun k => k = w.heap.size ∨ k = w.heap.size + 1) w1 _ := (((Kp.refl _ w1).setCell (p := ⟨w.heap.size, 1, none⟩) (.inl rfl) (.slice a' len c')).setCell (p := ⟨w.heap.size + 1, 0, none⟩) (.inr rfl) (.int .i64 x)).setCell (p := ⟨w.heap.size + 1, 1, none⟩) (.inr rfl) (.slice a' len c')
  exact ((ho2.out.kp hk (fun k hk e => by have := (ho2.out.lt k hk).1; omega))).le (by omega)

/-- What stands between two rounds of copied. -/
def CkIk (w wr : World) (L : List KV) (j : Nat) (v : Value) : Prop := ∃ Q, Q.map KV.flat = (L.take j).map KV.flat ∧ KOwn 36 wr w.heap.size v Q ∧ Below w.heap.size w wr

set_option maxRecDepth 100000 in
set_option maxHeartbeats 2000000 in
theorem copied_k (a : Option Addr) (n c lo : Nat) (L : List KV) (w : World) (hL : L.length = n) (h : KAt w lo a L) (hn : n * 32 ≤ SMALL) :
    Calls Try.prog 59 #[.slice a n c, .func (.func 60) #[] #[]] w fun e w' => ∃ v Q, e = .returned v ∧ Q.map KV.flat = L.map KV.flat ∧ KOwn 36 w' w.heap.size v Q ∧ Below w.heap.size w w' := by
  unfold SMALL at hn
  replace hL := hid hL
  obtain ⟨i0, hi0, hz0, hz1, hz2⟩ := info_parts info36z
  go_enter Try.func59, Try.ntmps59
  go_wp2_with fail
  go_loopw [5, 10] (fun v i wr => ∃ j : Nat, j ≤ n ∧ i = .int .i64 (j : Int) ∧ CkIk w wr L j v) (fun _ i _ => n - (intOf i).toNat)
  case atStart => exact ⟨0, Nat.zero_le _, rfl, [], rfl, KOwn.nil _ _ _, Below.refl _ _⟩
  case round =>
    obtain ⟨j, hj, rfl, Q, hQ, hP, hB⟩ := hrel
    by_cases hlt : j < n
    · have hjL : j < L.length := by rw [hL.out]; exact hlt
      obtain ⟨b, o, e⟩ := h.place (by intro e; rw [e] at hjL; simp at hjL)
      subst e
      have hr := h.below hB
      obtain ⟨x0, x1⟩ := hr.one j hjL
      have hat := hr.body _ (List.getElem_mem hjL)
      have hsh := hr.short _ (List.getElem_mem hjL)
      unfold SMALL at hsh
      have hQl : Q.length = j := by have := congrArg List.length hQ; simpa [Nat.min_eq_left (Nat.le_of_lt hjL)] using this
      obtain ⟨q, hq⟩ : ∃ q, q = L[j] := ⟨_, rfl⟩
      rw [← hq] at x0 x1 hat hsh
      replace hq := hid hq
      obtain ⟨num, a1, c1, body⟩ := q
      simp only at x0 x1 hat hsh
      obtain ⟨len, hl⟩ : ∃ x, body.length = x := ⟨_, rfl⟩
      rw [hl] at x1 hsh
      replace hl := hid hl
      replace hQl := hid hQl
      replace hQ := hid hQ
      replace hP := hid hP
      replace hr := hid hr
      have b4 := below_lit wr (.cells #[.int .i64 num, .slice a1 len c1] 36)
      have hat4 := hat.below b4
      replace hat4 := hid hat4
      replace hat := hid hat
      go_wp2_with fail
      refine (kapart_any num a1 c1 len body _ hl.out hsh hat4.out).mono ?_
      rintro e w5 ⟨a', c', rfl, ho5, hb5⟩
      have bl6 := below_lit w5 (.cells #[.int .i64 num, .slice a' len c'] 36)
      have B6 := bnext b4 (bnext hb5 bl6)
      have hP6 := owns_below hP.out.row B6
      rw [hQl.out] at hP6
      have hbase : w.heap.size ≤ (w5.alloc (.cells #[.int .i64 num, .slice a' len c'] 36)).heap.size := Nat.le_trans hB.size B6.size
      have hcl := cat_lit w5 36 [.int .i64 num, .slice a' len c'] _ rfl
      have ho6 : Own _ wr.heap.size _ _ := (ho5.below bl6).le b4.size
      replace ho6 := hid ho6
      replace ho5 := hid ho5
      replace hP6 := hid hP6
      replace hbase := hid hbase
      replace hcl := hid hcl
      go_wp2_with (at_builtin; refine wpList_cat _ rfl (.tmp 14) (.tmp 18) 32 rfl w.heap.size 36 i0 _ 2 32 Try.underlying32 hi0 hz0 hz1 hz2 rfl (by omega) u5 j (Q.flatMap KV.cells) rfl hP6.out (some ⟨w5.heap.size, 0, none⟩) 1 1 [.int .i64 num, .slice a' len c'] rfl rfl hcl.out (by simp [Value.oneCell']) (by unfold maxLen; omega) (by omega) hbase.out ?_; intro v7 w7 hr7 hg7 hv7)
      go_roundw
      case rel =>
        refine ⟨j + 1, by omega, by go_num, Q ++ [⟨num, a', c', body⟩], kflat_snoc hjL _ hQ.out (by rw [← hq.out]; rfl), ?_, ?_⟩
        · have hl2 := hl.out
          have hq2 := hQl.out
          subst hl2
          rw [← hq2] at hr7
          exact hP.out.more (q := ⟨num, a', c', body⟩) (by decide) B6 ho6.out (by unfold SMALL; exact hsh) hB.size hr7 hg7
        · refine (hB.trans (B6.mono hB.size)).trans ?_
          refine (Kp.grown hg7).below (fun k hk => ?_) hbase.out
          exact (World.ownsRow.lt hP.out.row k hk).1
      case measure => simp [intOf]; omega
    · obtain rfl : j = n := by omega
      replace hQ := hid hQ
      replace hP := hid hP
      go_wp2
      go_ret
      refine ⟨u5, Q, rfl, ?_, hP.out, hB⟩
      have := hQ.out
      rw [← hL.out, List.take_length] at this
      exact this

/-- What stands between two rounds of copied. -/
def CkIw (w wr : World) (L : List KV) (j : Nat) (v : Value) : Prop := ∃ Q, Q.map KV.flat = (L.take j).map KV.flat ∧ KOwn 69 wr w.heap.size v Q ∧ Below w.heap.size w wr

set_option maxRecDepth 100000 in
set_option maxHeartbeats 2000000 in
theorem copied_w (a : Option Addr) (n c lo : Nat) (L : List KV) (w : World) (hL : L.length = n) (h : KAt w lo a L) (hn : n * 32 ≤ SMALL) :
    Calls Try.prog 48 #[.slice a n c, .func (.func 49) #[] #[]] w fun e w' => ∃ v Q, e = .returned v ∧ Q.map KV.flat = L.map KV.flat ∧ KOwn 69 w' w.heap.size v Q ∧ Below w.heap.size w w' := by
  unfold SMALL at hn
  replace hL := hid hL
  obtain ⟨i0, hi0, hz0, hz1, hz2⟩ := info_parts info69z
  go_enter Try.func48, Try.ntmps48
  go_wp2_with fail
  go_loopw [5, 10] (fun v i wr => ∃ j : Nat, j ≤ n ∧ i = .int .i64 (j : Int) ∧ CkIw w wr L j v) (fun _ i _ => n - (intOf i).toNat)
  case atStart => exact ⟨0, Nat.zero_le _, rfl, [], rfl, KOwn.nil _ _ _, Below.refl _ _⟩
  case round =>
    obtain ⟨j, hj, rfl, Q, hQ, hP, hB⟩ := hrel
    by_cases hlt : j < n
    · have hjL : j < L.length := by rw [hL.out]; exact hlt
      obtain ⟨b, o, e⟩ := h.place (by intro e; rw [e] at hjL; simp at hjL)
      subst e
      have hr := h.below hB
      obtain ⟨x0, x1⟩ := hr.one j hjL
      have hat := hr.body _ (List.getElem_mem hjL)
      have hsh := hr.short _ (List.getElem_mem hjL)
      unfold SMALL at hsh
      have hQl : Q.length = j := by have := congrArg List.length hQ; simpa [Nat.min_eq_left (Nat.le_of_lt hjL)] using this
      obtain ⟨q, hq⟩ : ∃ q, q = L[j] := ⟨_, rfl⟩
      rw [← hq] at x0 x1 hat hsh
      replace hq := hid hq
      obtain ⟨num, a1, c1, body⟩ := q
      simp only at x0 x1 hat hsh
      obtain ⟨len, hl⟩ : ∃ x, body.length = x := ⟨_, rfl⟩
      rw [hl] at x1 hsh
      replace hl := hid hl
      replace hQl := hid hQl
      replace hQ := hid hQ
      replace hP := hid hP
      replace hr := hid hr
      have b4 := below_lit wr (.cells #[.int .i64 num, .slice a1 len c1] 69)
      have hat4 := hat.below b4
      replace hat4 := hid hat4
      replace hat := hid hat
      go_wp2_with fail
      refine (wapart_any num a1 c1 len body _ hl.out hsh hat4.out).mono ?_
      rintro e w5 ⟨a', c', rfl, ho5, hb5⟩
      have bl6 := below_lit w5 (.cells #[.int .i64 num, .slice a' len c'] 69)
      have B6 := bnext b4 (bnext hb5 bl6)
      have hP6 := owns_below hP.out.row B6
      rw [hQl.out] at hP6
      have hbase : w.heap.size ≤ (w5.alloc (.cells #[.int .i64 num, .slice a' len c'] 69)).heap.size := Nat.le_trans hB.size B6.size
      have hcl := cat_lit w5 69 [.int .i64 num, .slice a' len c'] _ rfl
      have ho6 : Own _ wr.heap.size _ _ := (ho5.below bl6).le b4.size
      replace ho6 := hid ho6
      replace ho5 := hid ho5
      replace hP6 := hid hP6
      replace hbase := hid hbase
      replace hcl := hid hcl
      go_wp2_with (at_builtin; refine wpList_cat _ rfl (.tmp 14) (.tmp 18) 39 rfl w.heap.size 69 i0 _ 2 32 Try.underlying39 hi0 hz0 hz1 hz2 rfl (by omega) u5 j (Q.flatMap KV.cells) rfl hP6.out (some ⟨w5.heap.size, 0, none⟩) 1 1 [.int .i64 num, .slice a' len c'] rfl rfl hcl.out (by simp [Value.oneCell']) (by unfold maxLen; omega) (by omega) hbase.out ?_; intro v7 w7 hr7 hg7 hv7)
      go_roundw
      case rel =>
        refine ⟨j + 1, by omega, by go_num, Q ++ [⟨num, a', c', body⟩], kflat_snoc hjL _ hQ.out (by rw [← hq.out]; rfl), ?_, ?_⟩
        · have hl2 := hl.out
          have hq2 := hQl.out
          subst hl2
          rw [← hq2] at hr7
          exact hP.out.more (q := ⟨num, a', c', body⟩) (by decide) B6 ho6.out (by unfold SMALL; exact hsh) hB.size hr7 hg7
        · refine (hB.trans (B6.mono hB.size)).trans ?_
          refine (Kp.grown hg7).below (fun k hk => ?_) hbase.out
          exact (World.ownsRow.lt hP.out.row k hk).1
      case measure => simp [intOf]; omega
    · obtain rfl : j = n := by omega
      replace hQ := hid hQ
      replace hP := hid hP
      go_wp2
      go_ret
      refine ⟨u5, Q, rfl, ?_, hP.out, hB⟩
      have := hQ.out
      rw [← hL.out, List.take_length] at this
      exact this

end Go.Proofs.Ythjggjjocfbjcaa
