/- What stands between two rounds of NetSent. -/
import Derived.Test.YtgjjgfppolmkoaaBody
namespace Go.Proofs.Ytgjjgfppolmkoaa
open Go.RowKit Go.Maps

/-- Whole numbers in a row of the call's own. -/
def NOwn (w : World) (base : Nat) (v : Value) (C : List Int) : Prop := w.ownsRow base 3 1 v C.length (C.map I)

theorem NOwn.cell {w : World} {base g n c : Nat} {C : List Int} (h : NOwn w base (.slice (some ⟨g, 0, none⟩) n c) C) (i : Nat) (hi : i < C.length) : w.cell? ⟨g, i, none⟩ = some (.int .i64 C[i]) := by
  obtain ⟨b, o, e, hc⟩ := owns_cat h (by intro e; simp at e; rw [e] at hi; simp at hi)
  cases e
  have := hc i (by simpa using hi)
  rw [Nat.zero_add] at this
  rw [this]
  simp [I]

theorem NOwn.form {w : World} {base : Nat} {v : Value} {C : List Int} (h : NOwn w base v C) (hp : 0 < C.length) : ∃ g c, v = .slice (some ⟨g, 0, none⟩) C.length c := by
  rcases h.2 with ⟨_, e⟩ | ⟨g, c, cur, rfl, _⟩
  · omega
  · exact ⟨g, c, rfl⟩

theorem NOwn.lt {w : World} {base : Nat} {v : Value} {C : List Int} (h : NOwn w base v C) (k : Nat) (hk : v.ownBlock = some k) : base ≤ k ∧ k < w.heap.size := World.ownsRow.lt h k hk

theorem NOwn.free {w : World} {base g n c : Nat} {C : List Int} (h : NOwn w base (.slice (some ⟨g, 0, none⟩) n c) C) (i : Nat) : w.frozen? ⟨g, i, none⟩ = false := by
  rcases h.2 with ⟨e, _⟩ | ⟨g', c', cur, e, _, hg, _⟩
  · cases e
  · cases e
    simp [World.frozen?, hg]

theorem NOwn.set {w : World} {base g n c : Nat} {C : List Int} (h : NOwn w base (.slice (some ⟨g, 0, none⟩) n c) C) (i : Nat) (x : Int) : NOwn (w.setCell ⟨g, i, none⟩ (.int .i64 x)) base (.slice (some ⟨g, 0, none⟩) n c) (C.set i x) := by
  obtain ⟨h1, h2⟩ := h
  rcases h2 with ⟨e, _⟩ | ⟨g', c', cur, e, hb, hg, hc, hm, hs, ht⟩
  · cases e
  · cases e
    refine ⟨by simp, .inr ⟨g, c, cur.setIfInBounds i (.int .i64 x), by rw [List.length_set], hb, ?_, by rw [List.length_set]; exact hc, hm, by simpa using hs, ?_⟩⟩
    · rw [setCell_eq_setRow w g i _ 3 (0, 0) _ hg, setRow_heap w g _ _ 3 _ hg]
    · rw [Array.toList_setIfInBounds, List.take_set, List.length_set, ht, List.map_set]
      rfl

theorem NOwn.kp {S : Nat → Prop} {w w' : World} {base : Nat} {v : Value} {C : List Int} (h : NOwn w base v C) (hk : Kp S w w') (hn : ∀ k, v.ownBlock = some k → ¬ S k) : NOwn w' base v C := owns_kp h hk hn

/-- A row that is known whole. -/
def ORow (w : World) (g : Nat) (O : List Int) : Prop := w.heap[g]? = some (.cells (O.map I).toArray 3 (0, 0))
theorem ORow.lt {w : World} {g : Nat} {O : List Int} (h : ORow w g O) : g < w.heap.size := (Array.getElem?_eq_some_iff.1 h).1
theorem ORow.cell {w : World} {g : Nat} {O : List Int} (h : ORow w g O) (i : Nat) (hi : i < O.length) : w.cell? ⟨g, i, none⟩ = some (.int .i64 O[i]) := by unfold ORow at h; simp [World.cell?, h, hi, I]
theorem ORow.free {w : World} {g : Nat} {O : List Int} (h : ORow w g O) (i : Nat) : w.frozen? ⟨g, i, none⟩ = false := by unfold ORow at h; simp [World.frozen?, h]
theorem ORow.kp {S : Nat → Prop} {w w' : World} {g : Nat} {O : List Int} (h : ORow w g O) (hk : Kp S w w') (hn : ¬ S g) : ORow w' g O := by unfold ORow; rw [hk.block g h.lt hn]; exact h
theorem ORow.set {w : World} {g : Nat} {O : List Int} (h : ORow w g O) (i : Nat) (x : Int) : ORow (w.setCell ⟨g, i, none⟩ (.int .i64 x)) g (O.set i x) := by
  unfold ORow at *
  rw [setCell_eq_setRow w g i _ 3 (0, 0) _ h, setRow_heap w g _ _ 3 _ h]
  simp [List.map_set, I]

/-- The packet is a copy of the k-th that was sent. -/
def IsOf (O : List Int) (sent : Nat) (q : Pk) : Prop := ∃ k : Nat, k < sent ∧ O.getD q.num.toNat 0 = (k : Int) + 1 ∧ q.fr = k ∧ q.to = (k : Int) + 1 ∧ q.body = bodyL k

structure SI (base p m gs go ga : Nat) (wr : World) (L : List Pk) (last sent : Nat) (O C : List Int) (cv : Value) : Prop where
  net : NAt wr p m L last
  cs : One wr gs 3 (.int .i64 (sent : Int))
  co : One wr go 59 (.slice (some ⟨ga, 0, none⟩) 400 400)
  ow : ORow wr ga O
  Ol : O.length = 400
  cr : NOwn wr base cv C
  Cl : C.length = sent
  pk : ∀ q ∈ L, IsOf O sent q
  offC : ∀ q ∈ L, ∀ x, q.a = some x → cv.ownBlock ≠ some x.block
  low : ∀ q ∈ L, ∀ x, q.a = some x → base ≤ x.block
  ord : p < gs ∧ m < gs ∧ gs < ga ∧ ga < go ∧ go < base
  bas : base ≤ wr.heap.size

section
variable {base p m gs go ga : Nat} {wr : World} {L : List Pk} {last sent : Nat} {O C : List Int} {cv : Value}

/-- A call on the net: the packets turn, the rest stays. -/
theorem SI.turn {w' : World} {L' : List Pk} {last' : Nat} (h : SI base p m gs go ga wr L last sent O C cv) (hk : Kp (Turn p m) wr w') (hn : NAt w' p m L' last') (hp : ∀ q ∈ L', IsOf O sent q) (ho : ∀ q ∈ L', ∀ x, q.a = some x → cv.ownBlock ≠ some x.block) (hl : ∀ q ∈ L', ∀ x, q.a = some x → base ≤ x.block) : SI base p m gs go ga w' L' last' sent O C cv := by
  have hd := h.ord
  have hT : ∀ k, gs ≤ k → ¬ Turn p m k := fun k hk e => by rcases e with e | e <;> omega
  exact ⟨hn, h.cs.kp hk (hT _ (by omega)), h.co.kp hk (hT _ (by omega)), h.ow.kp hk (hT _ (by omega)), h.Ol, h.cr.kp hk (fun k e => hT _ (by have := (h.cr.lt k e).1; omega)), h.Cl, hp, ho, hl, hd, Nat.le_trans h.bas hk.size⟩

theorem SI.below {w' : World} (h : SI base p m gs go ga wr L last sent O C cv) (hb : Below wr.heap.size wr w') : SI base p m gs go ga w' L last sent O C cv :=
  h.turn (Kp.of_below hb) (h.net.below hb) h.pk h.offC h.low

theorem SI.del {w' : World} {k : Int} (h : SI base p m gs go ga wr L last sent O C cv) (hk : Kp (Turn p m) wr w') (hn : NAt w' p m (delP L k) last) : SI base p m gs go ga w' (delP L k) last sent O C cv :=
  h.turn hk hn (fun q hq => h.pk q (mem_del hq)) (fun q hq => h.offC q (mem_del hq)) (fun q hq => h.low q (mem_del hq))

/-- A cell of copies is turned. -/
theorem SI.count {g n c : Nat} (h : SI base p m gs go ga wr L last sent O C (.slice (some ⟨g, 0, none⟩) n c)) (i : Nat) (x : Int) : SI base p m gs go ga (wr.setCell ⟨g, i, none⟩ (.int .i64 x)) L last sent O (C.set i x) (.slice (some ⟨g, 0, none⟩) n c) := by
  have hk : Kp (fun k => k = g) wr (wr.setCell ⟨g, i, none⟩ (.int .i64 x)) := Kp.setCell (S := fun k => k = g) (p := ⟨g, i, none⟩) (Kp.refl _ _) rfl _
  have hg := h.cr.lt g rfl
  have hd := h.ord
  exact ⟨h.net.kp hk (by omega) (by omega) (fun q hq x hx e => h.offC q hq x hx (by rw [e]; rfl)), h.cs.kp hk (by omega), h.co.kp hk (by omega), h.ow.kp hk (by omega), h.Ol, h.cr.set i x, by rw [List.length_set]; exact h.Cl, h.pk, h.offC, h.low, hd, Nat.le_trans h.bas hk.size⟩

/-- A cell of owner that no packet has. -/
theorem SI.owns (h : SI base p m gs go ga wr L last sent O C cv) (i : Nat) (x : Int) (hi : ∀ q ∈ L, q.num.toNat ≠ i) : SI base p m gs go ga (wr.setCell ⟨ga, i, none⟩ (.int .i64 x)) L last sent (O.set i x) C cv := by
  have hk : Kp (fun k => k = ga) wr (wr.setCell ⟨ga, i, none⟩ (.int .i64 x)) := Kp.setCell (S := fun k => k = ga) (p := ⟨ga, i, none⟩) (Kp.refl _ _) rfl _
  have hd := h.ord
  refine ⟨h.net.kp hk (by omega) (by omega) (fun q hq x hx e => by have := h.low q hq x hx; omega), h.cs.kp hk (by omega), h.co.kp hk (by omega), h.ow.set i x, by rw [List.length_set]; exact h.Ol, h.cr.kp hk (fun k e1 e2 => by have := (h.cr.lt k e1).1; omega), h.Cl, ?_, h.offC, h.low, hd, Nat.le_trans h.bas hk.size⟩
  intro q hq
  obtain ⟨k, h1, h2, h3⟩ := h.pk q hq
  refine ⟨k, h1, ?_, h3⟩
  rw [← h2]
  simp [List.getD, List.getElem?_set_ne (Ne.symm (hi q hq))]

/-- What a Send leaves, and the stores behind it. -/
theorem SI.sending {w3 w5 w6 : World} {q : Pk} {v' : Value} (h : SI base p m gs go ga wr L last sent O C cv) (hk : Kp (Turn p m) wr w3) (hn : NAt w3 p m (L ++ [q]) (last + 1)) (h1 : q.num = (last + 1 : Nat)) (h2 : q.fr = sent) (h3 : q.to = (sent : Int) + 1) (h4 : q.body = bodyL sent) (hqa : ∀ x, q.a = some x → wr.heap.size ≤ x.block) (hl4 : last + 1 < 400)
    (hb5 : Below ((w3.setCell ⟨gs, 0, none⟩ (.int .i64 ((sent : Int) + 1))).setCell ⟨ga, last + 1, none⟩ (.int .i64 ((sent : Int) + 1))).heap.size ((w3.setCell ⟨gs, 0, none⟩ (.int .i64 ((sent : Int) + 1))).setCell ⟨ga, last + 1, none⟩ (.int .i64 ((sent : Int) + 1))) w5)
    (hr : w6.ownsRow base 3 1 v' (sent + 1) (C.map I ++ [I 1])) (hg : w5.grownBy w6 cv.ownBlock) (hv : v'.ownBlock = cv.ownBlock ∨ v'.ownBlock = some w5.heap.size) :
    SI base p m gs go ga w6 (L ++ [q]) (last + 1) (sent + 1) (O.set (last + 1) ((sent : Int) + 1)) (C ++ [1]) v' := by
  have hd := h.ord
  have hT : ∀ k, gs ≤ k → ¬ Turn p m k := fun k hk e => by rcases e with e | e <;> omega
  have cs3 := h.cs.kp hk (hT _ (by omega))
  have co3 := h.co.kp hk (hT _ (by omega))
  have ow3 := h.ow.kp hk (hT _ (by omega))
  have k34 : Kp (fun k => k = gs ∨ k = ga) w3 ((w3.setCell ⟨gs, 0, none⟩ (.int .i64 ((sent : Int) + 1))).setCell ⟨ga, last + 1, none⟩ (.int .i64 ((sent : Int) + 1))) :=
    Kp.setCell (S := fun k => k = gs ∨ k = ga) (p := ⟨ga, last + 1, none⟩) (Kp.setCell (S := fun k => k = gs ∨ k = ga) (p := ⟨gs, 0, none⟩) (Kp.refl _ _) (.inl rfl) _) (.inr rfl) _
  have kga : ∀ (w : World) (v : Value), Kp (fun k => k = ga) w (w.setCell ⟨ga, last + 1, none⟩ v) := fun w v => Kp.setCell (S := fun k => k = ga) (p := ⟨ga, last + 1, none⟩) (Kp.refl _ _) rfl _
  have kgs : ∀ (w : World) (v : Value), Kp (fun k => k = gs) w (w.setCell ⟨gs, 0, none⟩ v) := fun w v => Kp.setCell (S := fun k => k = gs) (p := ⟨gs, 0, none⟩) (Kp.refl _ _) rfl _
  have cs4 := ((cs3.set (.int .i64 ((sent : Int) + 1))).kp (kga _ (.int .i64 ((sent : Int) + 1))) (by omega)).kp (S := fun _ => False) (Kp.of_below hb5) (fun h => h)
  have co4 := (co3.kp k34 (by omega)).kp (S := fun _ => False) (Kp.of_below hb5) (fun h => h)
  have ow4 := ((ow3.kp (kgs _ (.int .i64 ((sent : Int) + 1))) (by omega)).set (last + 1) ((sent : Int) + 1)).kp (S := fun _ => False) (Kp.of_below hb5) (fun h => h)
  have hlowL : ∀ q' ∈ L ++ [q], ∀ x, q'.a = some x → base ≤ x.block := fun q' hq' x hx => by
    rcases List.mem_append.1 hq' with hq' | hq'
    · exact h.low q' hq' x hx
    · simp at hq'; subst hq'
      have := hqa x hx
      have := h.bas
      omega
  have hoffL : ∀ q' ∈ L ++ [q], ∀ x, q'.a = some x → cv.ownBlock ≠ some x.block := fun q' hq' x hx e => by
    rcases List.mem_append.1 hq' with hq' | hq'
    · exact h.offC q' hq' x hx e
    · simp at hq'; subst hq'
      have := hqa x hx
      have := (h.cr.lt _ e).2
      omega
  have n4 := (hn.kp k34 (by omega) (by omega) (fun q' hq' x hx e => by have := hlowL q' hq' x hx; omega)).below hb5
  have kg := Kp.grown hg
  have hcv : ∀ k, cv.ownBlock = some k → base ≤ k := fun k e => (h.cr.lt k e).1
  have ei : ((sent + 1 : Nat) : Int) = (sent : Int) + 1 := by omega
  refine ⟨n4.kp kg (fun e => by have := hcv _ e; omega) (fun e => by have := hcv _ e; omega) (fun q' hq' x hx e => hoffL q' hq' x hx e), by rw [ei]; exact cs4.kp kg (fun e => by have := hcv _ e; omega), co4.kp kg (fun e => by have := hcv _ e; omega), ow4.kp kg (fun e => by have := hcv _ e; omega), by rw [List.length_set]; exact h.Ol, ?_, by rw [List.length_append, h.Cl]; rfl, ?_, ?_, hlowL, hd, ?_⟩
  · unfold NOwn
    rw [List.length_append, h.Cl, List.map_append]
    exact hr
  · intro q' hq'
    rcases List.mem_append.1 hq' with hq' | hq'
    · obtain ⟨k, e1, e2, e3⟩ := h.pk q' hq'
      refine ⟨k, by omega, ?_, e3⟩
      have hne : last + 1 ≠ q'.num.toNat := by
        have hp := List.pairwise_append.1 hn.rise
        have := hp.2.2 q' hq' q (by simp)
        have := (hn.nums q' (List.mem_append.2 (.inl hq'))).1
        omega
      rw [← e2]
      simp [List.getD, List.getElem?_set_ne hne]
    · simp at hq'; subst hq'
      refine ⟨sent, by omega, ?_, h2, h3, h4⟩
      rw [h1]
      have : ((last + 1 : Nat) : Int).toNat = last + 1 := by omega
      rw [this]
      simp [List.getD, List.getElem?_set_self (show last + 1 < O.length by rw [h.Ol]; exact hl4)]
  · intro q' hq' x hx
    rcases hv with e | e
    · rw [e]; exact hoffL q' hq' x hx
    · rw [e]
      intro e2
      have := Option.some.inj e2
      have := n4.bodies.lt q' hq' x hx
      omega
  · have := hk.size
    have := k34.size
    have := hb5.size
    have := kg.size
    have := h.bas
    omega

end
theorem rise_len : ∀ (L : List Pk) (lo hi : Nat), Rising L → (∀ q ∈ L, (lo : Int) < q.num ∧ q.num ≤ hi) → lo ≤ hi → L.length + lo ≤ hi
  | [], lo, hi, _, _, h => by simpa using h
  | q :: r, lo, hi, hr, hn, h => by
    obtain ⟨h1, h2⟩ := List.pairwise_cons.1 hr
    have hq := hn q (by simp)
    have := rise_len r q.num.toNat hi h2 (fun x hx => ⟨by have := h1 x hx; omega, (hn x (by simp [hx])).2⟩) (by omega)
    simp
    omega

theorem NAt.few {w : World} {p m last : Nat} {L : List Pk} (h : NAt w p m L last) : L.length ≤ last := by
  have := rise_len L 0 last h.rise (fun q hq => by have := h.nums q hq; omega) (Nat.zero_le _)
  omega

theorem send_i {p m last : Nat} {L : List Pk} (fr to : Int) (a : Option Addr) (cap len : Nat) (l : List UInt8) (w : World) (h : NAt w p m L last) (hl : l.length = len) (hlen : len ≤ 65545) (hlast : last < 4611686018427387904) (hL : L.length < 256) (hat : At w a l) :
    Calls Try.prog 10 #[.pointer (some ⟨p, 0, none⟩), .int .i64 fr, .int .i64 to, .slice a len cap] w fun e w' => ∃ q : Pk, e = .returned (.tuple #[.int .i64 ((last : Int) + 1), .int .i64 0]) ∧ q.num = (last + 1 : Nat) ∧ q.fr = fr ∧ q.to = to ∧ q.body = l ∧ (∀ x, q.a = some x → w.heap.size ≤ x.block) ∧ NAt w' p m (L ++ [q]) (last + 1) ∧ Kp (Turn p m) w w' := by
  refine (send_ok fr to a cap len l w h hl hlen hlast hL hat).mono ?_
  rintro e w' ⟨q, rfl, h2⟩
  exact ⟨q, by rw [show ((last + 1 : Nat) : Int) = (last : Int) + 1 by omega], h2⟩

theorem double_i {p m last : Nat} {L : List Pk} (k : Int) (q : Pk) (w : World) (h : NAt w p m L last) (hk : (Lit.int .i64 k).wf = true) (hf : findP L k = some q) (hlast : last < 4611686018427387904) (hL : L.length < 256) :
    Calls Try.prog 11 #[.pointer (some ⟨p, 0, none⟩), .int .i64 k] w fun e w' => e = .returned (.tuple #[.int .i64 ((last : Int) + 1), .int .i64 0]) ∧ NAt w' p m (L ++ [⟨(last + 1 : Nat), q.fr, q.to, q.a, q.c, q.body⟩]) (last + 1) ∧ Kp (Turn p m) w w' := by
  refine (double_yes k q w h hk hf hlast hL).mono ?_
  rintro e w' ⟨rfl, h2⟩
  exact ⟨by rw [show ((last + 1 : Nat) : Int) = (last : Int) + 1 by omega], h2⟩

/-- The blocks that NetSent turns. -/
def AllB (base p m gs ga : Nat) : Nat → Prop := fun k => base ≤ k ∨ k = p ∨ k = m ∨ k = gs ∨ k = ga

theorem all_turn {base p m gs ga : Nat} {w w' : World} (h : Kp (Turn p m) w w') : Kp (AllB base p m gs ga) w w' := h.mono (fun k _ e => by rcases e with e | e <;> simp [AllB, e])

theorem all_sending {base p m gs ga last : Nat} {w3 w5 w6 : World} {x : Value} {b : Option Nat} (hb5 : Below ((w3.setCell ⟨gs, 0, none⟩ x).setCell ⟨ga, last + 1, none⟩ x).heap.size ((w3.setCell ⟨gs, 0, none⟩ x).setCell ⟨ga, last + 1, none⟩ x) w5) (hg : w5.grownBy w6 b) (hb : ∀ k, b = some k → base ≤ k) : Kp (AllB base p m gs ga) w3 w6 := by
  have k1 : Kp (AllB base p m gs ga) w3 ((w3.setCell ⟨gs, 0, none⟩ x).setCell ⟨ga, last + 1, none⟩ x) :=
    Kp.setCell (S := AllB base p m gs ga) (p := ⟨ga, last + 1, none⟩) (Kp.setCell (S := AllB base p m gs ga) (p := ⟨gs, 0, none⟩) (Kp.refl _ _) (by simp [AllB]) _) (by simp [AllB]) _
  exact (k1.then hb5).trans ((Kp.grown hg).mono (fun k _ e => .inl (hb k e)))

theorem flat_cells : ∀ (Q : List Pk) (i r : Nat) (hi : i < Q.length) (hr : r < 4), (Q.flatMap Pk.cells)[i * 4 + r]? = some ((Q[i].cells)[r]'(by simp [Pk.cells]; omega))
  | q :: t, 0, r, _, hr => by
    simp only [List.flatMap_cons, Nat.zero_mul, Nat.zero_add]
    rw [List.getElem?_append_left (by simp [Pk.cells]; omega)]
    exact List.getElem?_eq_getElem _
  | q :: t, i + 1, r, hi, hr => by
    simp only [List.flatMap_cons]
    rw [List.getElem?_append_right (by simp [Pk.cells]; omega)]
    have : (i + 1) * 4 + r - q.cells.length = i * 4 + r := by simp [Pk.cells]; omega
    rw [this]
    exact flat_cells t i r (by simpa using hi) hr

theorem PRow.packet {w : World} {base lb lo n c : Nat} {Q : List Pk} (h : PRow w base (.slice (some ⟨lb, lo, none⟩) n c) Q) (i : Nat) (hi : i < Q.length) :
    w.cell? ⟨lb, lo + i * 4, none⟩ = some (.int .i64 Q[i].num) ∧ w.cell? ⟨lb, lo + i * 4 + 1, none⟩ = some (.int .i64 Q[i].fr) ∧ w.cell? ⟨lb, lo + i * 4 + 2, none⟩ = some (.int .i64 Q[i].to) ∧ w.cell? ⟨lb, lo + i * 4 + 3, none⟩ = some (.slice Q[i].a Q[i].body.length Q[i].c) := by
  obtain ⟨b, o, e, hc⟩ := owns_cat h.row (by intro e; have := cells_len Q; rw [e] at this; simp at this; omega)
  cases e
  have key : ∀ r (hr : r < 4), w.cell? ⟨lb, lo + (i * 4 + r), none⟩ = some ((Q[i].cells)[r]'(by simp [Pk.cells]; omega)) := fun r hr => by
    have hlt : i * 4 + r < (Q.flatMap Pk.cells).length := by rw [cells_len]; omega
    rw [hc _ hlt]
    have := flat_cells Q i r hi hr
    rw [List.getElem?_eq_getElem hlt] at this
    exact this
  exact ⟨key 0 (by omega), key 1 (by omega), key 2 (by omega), key 3 (by omega)⟩

theorem sum_set : ∀ (C : List Int) (k : Nat) (hk : k < C.length) (y : Int), (C.set k y).sum = C.sum - C[k] + y
  | c :: r, 0, _, y => by simp; omega
  | c :: r, k + 1, hk, y => by
    have := sum_set r k (by simpa using hk) y
    simp [this]
    omega

theorem SI.doubling {base p m gs go ga : Nat} {wr w3 : World} {L : List Pk} {last sent : Nat} {O C : List Int} {cv : Value} {q : Pk} {k : Nat} (h : SI base p m gs go ga wr L last sent O C cv) (hk : Kp (Turn p m) wr w3) (hq : q ∈ L) (hn : NAt w3 p m (L ++ [⟨(last + 1 : Nat), q.fr, q.to, q.a, q.c, q.body⟩]) (last + 1))
    (h1 : k < sent) (h2 : q.fr = k) (h3 : q.to = (k : Int) + 1) (h4 : q.body = bodyL k) (hl4 : last + 1 < 400) :
    SI base p m gs go ga (w3.setCell ⟨ga, last + 1, none⟩ (.int .i64 ((k : Int) + 1))) (L ++ [⟨(last + 1 : Nat), q.fr, q.to, q.a, q.c, q.body⟩]) (last + 1) sent (O.set (last + 1) ((k : Int) + 1)) C cv := by
  have hd := h.ord
  have hT : ∀ k, gs ≤ k → ¬ Turn p m k := fun k hk e => by rcases e with e | e <;> omega
  have kg : Kp (fun k => k = ga) w3 (w3.setCell ⟨ga, last + 1, none⟩ (.int .i64 ((k : Int) + 1))) := Kp.setCell (S := fun k => k = ga) (p := ⟨ga, last + 1, none⟩) (Kp.refl _ _) rfl _
  have hmem : ∀ q' ∈ L ++ [(⟨(last + 1 : Nat), q.fr, q.to, q.a, q.c, q.body⟩ : Pk)], ∃ q'' ∈ L, q'.a = q''.a := fun q' hq' => by
    rcases List.mem_append.1 hq' with hq' | hq'
    · exact ⟨q', hq', rfl⟩
    · simp at hq'; subst hq'; exact ⟨q, hq, rfl⟩
  have hlow : ∀ q' ∈ L ++ [(⟨(last + 1 : Nat), q.fr, q.to, q.a, q.c, q.body⟩ : Pk)], ∀ x, q'.a = some x → base ≤ x.block := fun q' hq' x hx => by
    obtain ⟨q'', h5, h6⟩ := hmem q' hq'
    exact h.low q'' h5 x (by rw [← h6]; exact hx)
  refine ⟨hn.kp kg (by omega) (by omega) (fun q' hq' x hx e => by have := hlow q' hq' x hx; omega), (h.cs.kp hk (hT _ (by omega))).kp kg (by omega), (h.co.kp hk (hT _ (by omega))).kp kg (by omega), (h.ow.kp hk (hT _ (by omega))).set _ _, by rw [List.length_set]; exact h.Ol, (h.cr.kp hk (fun k e => hT _ (by have := (h.cr.lt k e).1; omega))).kp kg (fun k e e2 => by have := (h.cr.lt k e).1; omega), h.Cl, ?_, ?_, hlow, hd, Nat.le_trans h.bas (Nat.le_trans hk.size kg.size)⟩
  · intro q' hq'
    rcases List.mem_append.1 hq' with hq' | hq'
    · obtain ⟨k', e1, e2, e3⟩ := h.pk q' hq'
      refine ⟨k', e1, ?_, e3⟩
      have hne : last + 1 ≠ q'.num.toNat := by
        have := h.net.nums q' hq'
        omega
      rw [← e2]
      simp [List.getD, List.getElem?_set_ne hne]
    · simp at hq'; subst hq'
      refine ⟨k, h1, ?_, h2, h3, h4⟩
      have : ((last + 1 : Nat) : Int).toNat = last + 1 := by omega
      show List.getD _ (((last + 1 : Nat) : Int).toNat) 0 = _
      rw [this]
      simp [List.getD, List.getElem?_set_self (show last + 1 < O.length by rw [h.Ol]; exact hl4)]
  · intro q' hq' x hx
    obtain ⟨q'', h5, h6⟩ := hmem q' hq'
    exact h.offC q'' h5 x (by rw [← h6]; exact hx)

theorem all_cell {base p m gs ga g i : Nat} {w : World} (v : Value) (h : base ≤ g ∨ g = ga) : Kp (AllB base p m gs ga) w (w.setCell ⟨g, i, none⟩ v) :=
  Kp.setCell (S := AllB base p m gs ga) (p := ⟨g, i, none⟩) (Kp.refl _ _) (by rcases h with h | h <;> simp [AllB, h]) _

theorem del_head (q : Pk) (r : List Pk) (h : Rising (q :: r)) : delP (q :: r) q.num = r := by
  obtain ⟨h1, _⟩ := List.pairwise_cons.1 h
  unfold delP
  rw [List.filter_cons_of_neg (by simp), List.filter_eq_self]
  intro x hx
  have := h1 x hx
  simp
  omega

theorem sum_bound : ∀ (C : List Int) (B : Int), (∀ x ∈ C, -B ≤ x ∧ x ≤ B) → -B * C.length ≤ C.sum ∧ C.sum ≤ B * C.length
  | [], B, _ => by simp
  | c :: r, B, h => by
    have h1 := h c (by simp)
    have h2 := sum_bound r B (fun x hx => h x (by simp [hx]))
    have e1 : B * ((c :: r).length : Int) = B * (r.length : Int) + B := by simp [Int.mul_add]
    have e2 : -B * ((c :: r).length : Int) = -B * (r.length : Int) - B := by simp [Int.mul_add]; omega
    rw [e1, e2]
    simp
    omega

theorem take_sum (C : List Int) (i : Nat) (h : i < C.length) : (C.take (i + 1)).sum = (C.take i).sum + C[i] := by
  rw [List.take_succ_eq_append_getElem h, List.sum_append]
  simp only [List.sum_cons, List.sum_nil, Int.add_zero]

theorem take_bound (C : List Int) (i : Nat) (hl : C.length ≤ 100) (h : ∀ x ∈ C, -101 ≤ x ∧ x ≤ 101) : -10100 ≤ (C.take i).sum ∧ (C.take i).sum ≤ 10100 := by
  have := sum_bound (C.take i) 101 (fun x hx => by have := h x (List.mem_of_mem_take hx); omega)
  have h2 : ((C.take i).length : Int) ≤ 100 := by
    have : (C.take i).length ≤ C.length := by rw [List.length_take]; omega
    omega
  omega

end Go.Proofs.Ytgjjgfppolmkoaa
