/- NetPlays: what both nets answer to one call, whatever it comes to. -/
import Derived.Test.YtgjjgfppolmkoaaPlaysFill
namespace Go.Proofs.Ytgjjgfppolmkoaa
open Go.RowKit Go.Maps

/-- A block of noughts that was just made for a net or a packet of the document. -/
def ZB (w : World) (k : Nat) : Prop := w.heap[k]? = some (.cells #[.slice none 0 0, .int .i64 0] 40 (0, 0)) ∨ w.heap[k]? = some (.cells #[.int .i64 0, .int .i64 0, .int .i64 0, .slice none 0 0] 31 (0, 0))

theorem ZB.cell {w : World} {k o : Nat} {v : Value} (h : ZB w k) (hc : w.cell? ⟨k, o, none⟩ = some v) : v = .slice none 0 0 ∨ v = .int .i64 0 := by
  rcases h with h | h
  · simp only [World.cell?, h] at hc
    match o, hc with
    | 0, hc => simp at hc; exact .inl hc.symm
    | 1, hc => simp at hc; exact .inr hc.symm
    | o + 2, hc => simp at hc
  · simp only [World.cell?, h] at hc
    match o, hc with
    | 0, hc => simp at hc; exact .inr hc.symm
    | 1, hc => simp at hc; exact .inr hc.symm
    | 2, hc => simp at hc; exact .inr hc.symm
    | 3, hc => simp at hc; exact .inl hc.symm
    | o + 4, hc => simp at hc

theorem Side.num {T : Nat → Prop} {w : World} {p m last n c : Nat} {a : Option Addr} {L R : List Pk} (h : Side T w p m L last a n c R) : ∀ q ∈ R, 1 ≤ q.num := by
  intro q hq
  have : q.flat ∈ L.map Pk.flat := by rw [h.same]; exact List.mem_map_of_mem hq
  obtain ⟨z, hz, hzf⟩ := List.mem_map.1 this
  have := (h.net.nums z hz).1
  have hn : z.num = q.num := congrArg (fun y => y.1) hzf
  omega

/-- A side stays while only blocks of noughts, those that T has, and those in E are turned. -/
theorem Side.zb {T S E : Nat → Prop} {w wE : World} {p m last n c : Nat} {a : Option Addr} {L R : List Pk} (h : Side T w p m L last a n c R) (hk : Kp S w wE) (hS : ∀ k, k < w.heap.size → S k → T k ∨ ZB w k ∨ E k) (hEa : ∀ x, a = some x → ¬ E x.block) (hER : ∀ q ∈ R, ∀ x, q.a = some x → ¬ E x.block) (hN : NAt wE p m L last) : Side T wE p m L last a n c R := by
  have hs := hk.size
  refine ⟨hN, ?_, h.Rl, h.cap, h.le, h.same, h.offL, fun x hx => ⟨(h.offA x hx).1, ?_⟩, fun q hq x hx => ⟨(h.offR q hq x hx).1, ?_⟩⟩
  · refine ⟨?_, fun q hq => ?_⟩
    · by_cases hR : R = []
      · rw [hR]; exact fun h => absurd rfl h
      · obtain ⟨b, o, e⟩ := h.rat.place hR
        refine h.rat.row.kp hk fun x hx hsx => ?_
        rw [e] at hx
        cases hx
        rcases hS _ (h.offA _ e).2 hsx with h1 | h1 | h1
        · exact (h.offA _ e).1 h1
        · have hpos := List.length_pos_iff.2 hR
          have hr := h.rat
          rw [e] at hr
          have hc := (hr.packet 0 hpos).1
          have hn := h.num R[0] (List.getElem_mem hpos)
          rcases h1.cell hc with h2 | h2
          · cases h2
          · simp only [Value.int.injEq] at h2; omega
        · exact hEa _ e h1
    · by_cases hb : q.body = []
      · rw [hb]; exact at_nil _ _
      · obtain ⟨b, o, e, hc⟩ := h.rat.body q hq hb
        refine (h.rat.body q hq).kp hk fun x hx hsx => ?_
        rw [e] at hx
        cases hx
        rcases hS _ (h.offR q hq _ e).2 hsx with h1 | h1 | h1
        · exact (h.offR q hq _ e).1 h1
        · have hc0 := hc 0 (List.length_pos_iff.2 hb)
          rcases h1.cell hc0 with h2 | h2 <;> cases h2
        · exact hER q hq _ e h1
  · have := (h.offA x hx).2; omega
  · have := (h.offR q hq x hx).2; omega

section
variable {base gd gl on : Nat} {w : World} {p m : Nat} {L : List Pk} {last : Nat} {a : Option Addr} {n c : Nat} {R : List Pk} {p' m' : Nat} {L' : List Pk} {last' : Nat} {a' : Option Addr} {n' c' : Nat} {R' : List Pk}

/-- Nothing came of the call. -/
theorem View.res_same (h : View base gd gl on w p m L last a n c R p' m' L' last' a' n' c' R') {wr w1 : World} (ka : Kp (Turn p m) w wr) (hN : NAt wr p m L last) (hb : Below wr.heap.size wr w1) : Side (T6 p m p' m' gd gl) w1 p m L last a n c R := by
  refine h.sd.zb (E := fun _ => False) (ka.then hb) (fun k _ e => ?_) (fun _ _ e => e) (fun _ _ _ _ e => e) (hN.below hb)
  rcases e with e | e <;> simp [T6, e]

/-- What Send, Double and the like tell: where it lies is off every block between W0 and W1. -/
structure Off (W0 W1 : Nat) (a1 : Option Addr) (R1 : List Pk) : Prop where
  a : ∀ x, a1 = some x → x.block < W0 ∨ W1 ≤ x.block
  r : ∀ q ∈ R1, ∀ x, q.a = some x → x.block < W0 ∨ W1 ≤ x.block

theorem View.off (h : View base gd gl on w p m L last a n c R p' m' L' last' a' n' c' R') (W1 : Nat) : Off w.heap.size W1 a R := ⟨fun x hx => .inl (h.sd.offA x hx).2, fun q hq x hx => .inl (h.sd.offR q hq x hx).2⟩

/-- Send on both sides. -/
theorem send_both (h : View base gd gl on w p m L last a n c R p' m' L' last' a' n' c' R') (fr to : Int) (ba : Option Addr) (len bc gi cg : Nat) (body : List UInt8) (hl : body.length = len) (hlast : last < 4611686018427387904) :
    ∃ (num ec : Int) (last1 : Nat) (SO : World → List Pk → Prop), last1 ≤ last + 1 ∧
      (∀ ws, Below w.heap.size w ws → At ws (some ⟨gi, 0, none⟩) body → Calls Try.prog 10 #[.pointer (some ⟨p, 0, none⟩), .int .i64 fr, .int .i64 to, .slice (some ⟨gi, 0, none⟩) len cg] ws fun e w1 => ∃ L1, e = .returned (.tuple #[.int .i64 num, .int .i64 ec]) ∧ SO ws L1 ∧ NAt w1 p m L1 last1 ∧ (∀ q ∈ L1, ∀ x, q.a = some x → x.block < w.heap.size ∨ ws.heap.size ≤ x.block) ∧ Kp (Turn p m) ws w1) ∧
      (∀ ws wr L1, w.heap.size ≤ ws.heap.size → ws.heap.size ≤ wr.heap.size → SO ws L1 → NAt wr p m L1 last1 → Kp (Turn p m) w wr → At wr ba body → Calls Try.prog 16 #[.agg #[.slice a n c, .int .i64 (last : Int)], .int .i64 fr, .int .i64 to, .slice ba len bc] wr fun e w1 => ∃ a1 n1 c1 R1, e = .returned (.tuple #[.agg #[.slice a1 n1 c1, .int .i64 (last1 : Int)], .int .i64 num, .int .i64 ec]) ∧ Side (T6 p m p' m' gd gl) w1 p m L1 last1 a1 n1 c1 R1 ∧ Off w.heap.size wr.heap.size a1 R1 ∧ Below wr.heap.size wr w1) := by
  have hLn := h.sd.len
  have hle := h.sd.le
  have old : ∀ (W : Nat), ∀ q ∈ L, ∀ x, q.a = some x → x.block < w.heap.size ∨ W ≤ x.block := fun W q hq x hx => .inl (h.sd.net.bodies.lt q hq x hx)
  by_cases h1 : 65545 < len
  · refine ⟨0, 3, last, fun _ L1 => L1 = L, by omega, fun ws hb _ => ?_, fun ws wr L1 hs hs2 e hN ka hat => ?_⟩
    · refine (send_long fr to _ cg len ws (h.sd.net.below hb) h1).mono ?_
      rintro e w1 ⟨rfl, rfl⟩
      exact ⟨L, rfl, rfl, h.sd.net.below hb, old _, Kp.refl _ _⟩
    · subst e
      refine (rsend_long a ba n c len bc last fr to wr h1).mono ?_
      rintro e w1 ⟨rfl, hb1⟩
      exact ⟨a, n, c, R, rfl, h.res_same ka hN hb1, h.off _, hb1⟩
  · by_cases h2 : 256 ≤ n
    · refine ⟨0, 5, last, fun _ L1 => L1 = L, by omega, fun ws hb _ => ?_, fun ws wr L1 hs hs2 e hN ka hat => ?_⟩
      · refine (send_full fr to _ cg len ws (h.sd.net.below hb) (by omega) (by omega)).mono ?_
        rintro e w1 ⟨rfl, rfl⟩
        exact ⟨L, rfl, rfl, h.sd.net.below hb, old _, Kp.refl _ _⟩
      · subst e
        refine (rsend_full a ba n c len bc last fr to wr (by omega) h2).mono ?_
        rintro e w1 ⟨rfl, hb1⟩
        exact ⟨a, n, c, R, rfl, h.res_same ka hN hb1, h.off _, hb1⟩
    · refine ⟨(last : Int) + 1, 0, last + 1, fun ws L1 => ∃ q1 : Pk, L1 = L ++ [q1] ∧ (q1.num = (last + 1 : Nat) ∧ q1.fr = fr ∧ q1.to = to ∧ q1.body = body) ∧ ∀ x, q1.a = some x → ws.heap.size ≤ x.block, by omega, fun ws hb hat => ?_, fun ws wr L1 hs hs2 e hN ka hat => ?_⟩
      · refine (send_i fr to (some ⟨gi, 0, none⟩) cg len body ws (h.sd.net.below hb) hl (by omega) hlast (by omega) hat).mono ?_
        rintro e w1 ⟨q1, rfl, e1, e2, e3, e4, hnew, hN, hk⟩
        refine ⟨L ++ [q1], rfl, ⟨q1, rfl, ⟨e1, e2, e3, e4⟩, hnew⟩, hN, fun q hq x hx => ?_, hk⟩
        rcases List.mem_append.1 hq with h' | h'
        · exact old _ q h' x hx
        · rw [List.mem_singleton] at h'; subst h'; exact .inr (hnew x hx)
      · obtain ⟨q1, rfl, hq, hnew⟩ := e
        refine (rsend_ok a n c last fr to ba len bc body R wr (by omega) h.sd.Rl (h.rata ka) hl (by omega) hat hlast).mono ?_
        rintro e w1 ⟨v, q, rfl, hp, hb1⟩
        obtain ⟨a1, c1, rfl, hS⟩ := h.sd.more (w1 := wr) (by omega) h.tlt (hN.below hb1) hq (fun x hx e => by have := h.tlt _ e; have := hnew x hx; omega) ka.size hb1.size hp
        obtain ⟨a2, c2, e2, _, hb2, _⟩ := hp.rat
        simp only [Value.slice.injEq] at e2
        obtain ⟨rfl, _, rfl⟩ := e2
        refine ⟨a1, n + 1, c1, R ++ [q], ?_, hS, ⟨fun x hx => .inr (hb2 x hx).1, fun z hz x hx => ?_⟩, hb1⟩
        · rw [show (((last + 1 : Nat) : Int)) = (last : Int) + 1 by omega]
        · rcases List.mem_append.1 hz with h' | h'
          · exact .inl (h.sd.offR z h' x hx).2
          · rw [List.mem_singleton] at h'; subst h'; exact .inr (hp.new x hx).1

/-- Deliver, Drop on both sides. -/
theorem del_both (h : View base gd gl on w p m L last a n c R p' m' L' last' a' n' c' R') (k : Int) (hk : (Lit.int .i64 k).wf = true) :
    ∃ (ec X0 X1 X2 : Int) (B : List UInt8) (L1 : List Pk), (∀ q ∈ L1, q ∈ L) ∧
      (∀ ws, Below w.heap.size w ws → Calls Try.prog 13 #[.pointer (some ⟨p, 0, none⟩), .int .i64 k] ws fun e w1 => ∃ b1 c1, e = .returned (.tuple #[.agg #[.int .i64 X0, .int .i64 X1, .int .i64 X2, .slice b1 B.length c1], .int .i64 ec]) ∧ At w1 b1 B ∧ (∀ x, b1 = some x → ws.heap.size ≤ x.block) ∧ NAt w1 p m L1 last ∧ Kp (Turn p m) ws w1) ∧
      (∀ ws, Below w.heap.size w ws → Calls Try.prog 12 #[.pointer (some ⟨p, 0, none⟩), .int .i64 k] ws fun e w1 => e = .returned (.int .i64 ec) ∧ NAt w1 p m L1 last ∧ Kp (Turn p m) ws w1) ∧
      (∀ wr, NAt wr p m L1 last → Kp (Turn p m) w wr → Calls Try.prog 20 #[.agg #[.slice a n c, .int .i64 (last : Int)], .int .i64 k] wr fun e w1 => ∃ a1 n1 c1 R1 b2 c2, e = .returned (.tuple #[.agg #[.slice a1 n1 c1, .int .i64 (last : Int)], .agg #[.int .i64 X0, .int .i64 X1, .int .i64 X2, .slice b2 B.length c2], .int .i64 ec]) ∧ At w1 b2 B ∧ (∀ x, b2 = some x → x.block < w.heap.size ∧ ¬ T6 p m p' m' gd gl x.block) ∧ Side (T6 p m p' m' gd gl) w1 p m L1 last a1 n1 c1 R1 ∧ Off w.heap.size wr.heap.size a1 R1 ∧ Below wr.heap.size wr w1) := by
  cases hf : findP L k with
  | none =>
    refine ⟨80, 0, 0, 0, [], L, fun _ h => h, fun ws hb => ?_, fun ws hb => ?_, fun wr hN ka => ?_⟩
    · refine (deliver_bad _ k 80 ws rfl (fun w1 hb1 => find_no k w1 (h.sd.net.below (bnext hb hb1)) hk hf)).mono ?_
      rintro e w1 ⟨rfl, hb1⟩
      exact ⟨none, 0, rfl, at_nil _ _, fun x hx => (by cases hx), h.sd.net.below (bnext hb hb1), Kp.of_below hb1⟩
    · refine (drop_bad _ k 80 ws rfl (find_no k ws (h.sd.net.below hb) hk hf)).mono ?_
      rintro e w1 ⟨rfl, hb1⟩
      exact ⟨rfl, h.sd.net.below (bnext hb hb1), Kp.of_below hb1⟩
    · refine (rdel_no a n c last k R wr h.sd.Rl (h.rata ka) h.sd.le (both_none h.sd.same hf)).mono ?_
      rintro e w1 ⟨rfl, hb1⟩
      exact ⟨a, n, c, R, none, 0, rfl, at_nil _ _, fun x hx => (by cases hx), h.res_same ka hN hb1, h.off _, hb1⟩
  | some q =>
    obtain ⟨j, hj, hpl, hfl, hdel⟩ := both_some h.sd.net.rise h.sd.same hf
    simp only [Pk.flat, Prod.mk.injEq] at hfl
    obtain ⟨f0, f1, f2, f3⟩ := hfl
    refine ⟨0, q.num, q.fr, q.to, q.body, delP L k, fun _ h => mem_del h, fun ws hb => ?_, fun ws hb => ?_, fun wr hN ka => ?_⟩
    · refine (deliver_yes k q ws (h.sd.net.below hb) hk hf).mono ?_
      rintro e w1 ⟨b1, c1, rfl, ho, hN, hkp⟩
      refine ⟨b1, c1, rfl, own_at ho, fun x hx => ?_, hN, hkp⟩
      obtain ⟨xb, xo, xs⟩ := x
      subst hx
      exact (ho.lt xb rfl).1
    · exact drop_yes k q ws (h.sd.net.below hb) hk hf
    · refine (rdel_ok a n c last k R wr h.sd.Rl (h.rata ka) h.sd.le h.sd.cap j hj hpl R[j].num R[j].fr R[j].to R[j].a R[j].c R[j].body.length R[j].body rfl rfl).mono ?_
      rintro e w1 ⟨a1, c1, rfl, hr, hn, hc, hb1⟩
      have hqo := h.sd.offR _ (List.getElem_mem hj)
      refine ⟨a1, n - 1, c1, R.take j ++ R.drop (j + 1), R[j].a, R[j].c, by rw [f0, f1, f2, f3], ?_, fun x hx => ⟨(hqo x hx).2, (hqo x hx).1⟩, h.sd.less (w1 := wr) h.tlt hj (hN.below hb1) hdel ka.size hb1.size hr hn hc, ⟨fun x hx => .inr (hn x hx).1, fun z hz x hx => ?_⟩, hb1⟩
      · rw [← f3]
        exact ((h.rata ka).body _ (List.getElem_mem hj)).below hb1
      · have hm : z ∈ R := by
          rcases List.mem_append.1 hz with h' | h'
          · exact List.mem_of_mem_take h'
          · exact List.mem_of_mem_drop h'
        exact .inl (h.sd.offR z hm x hx).2

/-- Double on both sides. -/
theorem dbl_both (h : View base gd gl on w p m L last a n c R p' m' L' last' a' n' c' R') (k : Int) (hk : (Lit.int .i64 k).wf = true) (hlast : last < 4611686018427387904) :
    ∃ (num ec : Int) (last1 : Nat) (L1 : List Pk), last1 ≤ last + 1 ∧ (∀ q ∈ L1, ∀ x, q.a = some x → x.block < w.heap.size) ∧
      (∀ ws, Below w.heap.size w ws → Calls Try.prog 11 #[.pointer (some ⟨p, 0, none⟩), .int .i64 k] ws fun e w1 => e = .returned (.tuple #[.int .i64 num, .int .i64 ec]) ∧ NAt w1 p m L1 last1 ∧ Kp (Turn p m) ws w1) ∧
      (∀ wr, NAt wr p m L1 last1 → Kp (Turn p m) w wr → Calls Try.prog 22 #[.agg #[.slice a n c, .int .i64 (last : Int)], .int .i64 k] wr fun e w1 => ∃ a1 n1 c1 R1, e = .returned (.tuple #[.agg #[.slice a1 n1 c1, .int .i64 (last1 : Int)], .int .i64 num, .int .i64 ec]) ∧ Side (T6 p m p' m' gd gl) w1 p m L1 last1 a1 n1 c1 R1 ∧ Off w.heap.size wr.heap.size a1 R1 ∧ Below wr.heap.size wr w1) := by
  have hLn := h.sd.len
  have hle := h.sd.le
  have old : ∀ q ∈ L, ∀ x, q.a = some x → x.block < w.heap.size := fun q hq x hx => h.sd.net.bodies.lt q hq x hx
  cases hf : findP L k with
  | none =>
    refine ⟨0, 80, last, L, by omega, old, fun ws hb => ?_, fun wr hN ka => ?_⟩
    · refine (double_bad _ k 80 ws rfl (find_no k ws (h.sd.net.below hb) hk hf)).mono ?_
      rintro e w1 ⟨rfl, hb1⟩
      exact ⟨rfl, h.sd.net.below (bnext hb hb1), Kp.of_below hb1⟩
    · refine (rdbl_no a n c last k R wr h.sd.Rl (h.rata ka) h.sd.le (both_none h.sd.same hf)).mono ?_
      rintro e w1 ⟨rfl, hb1⟩
      exact ⟨a, n, c, R, rfl, h.res_same ka hN hb1, h.off _, hb1⟩
  | some q =>
    obtain ⟨j, hj, hpl, hfl, hdel⟩ := both_some h.sd.net.rise h.sd.same hf
    simp only [Pk.flat, Prod.mk.injEq] at hfl
    obtain ⟨f0, f1, f2, f3⟩ := hfl
    have hqm := (find_mem hf).1
    have hsh := h.sd.net.bodies.short q hqm
    by_cases h2 : 256 ≤ n
    · refine ⟨0, 5, last, L, by omega, old, fun ws hb => ?_, fun wr hN ka => ?_⟩
      · refine (double_full k q ws (h.sd.net.below hb) hk hf (by omega)).mono ?_
        rintro e w1 ⟨rfl, hb1⟩
        exact ⟨rfl, h.sd.net.below (bnext hb hb1), Kp.of_below hb1⟩
      · refine (rdbl_full a n c last k R wr h.sd.Rl (h.rata ka) ⟨h2, by omega⟩ j hj hpl R[j].num R[j].fr R[j].to R[j].a R[j].c R[j].body.length R[j].body rfl rfl).mono ?_
        rintro e w1 ⟨rfl, hb1⟩
        exact ⟨a, n, c, R, rfl, h.res_same ka hN hb1, h.off _, hb1⟩
    · refine ⟨(last : Int) + 1, 0, last + 1, L ++ [⟨(last + 1 : Nat), q.fr, q.to, q.a, q.c, q.body⟩], by omega, fun z hz x hx => ?_, fun ws hb => ?_, fun wr hN ka => ?_⟩
      · rcases List.mem_append.1 hz with h' | h'
        · exact old z h' x hx
        · rw [List.mem_singleton] at h'; subst h'; exact old q hqm x hx
      · exact double_i k q ws (h.sd.net.below hb) hk hf hlast (by omega)
      · refine (rdbl_ok a n c last k R wr h.sd.Rl (h.rata ka) (by omega) j hj hpl R[j].num R[j].fr R[j].to R[j].a R[j].c R[j].body.length R[j].body rfl rfl (by rw [f3]; exact hsh) hlast).mono ?_
        rintro e w1 ⟨v, q2, rfl, hp, hb1⟩
        rw [f1, f2, f3] at hp
        obtain ⟨a1, c1, rfl, hS⟩ := h.sd.more (w1 := wr) (q1 := ⟨(last + 1 : Nat), q.fr, q.to, q.a, q.c, q.body⟩) (by omega) h.tlt (hN.below hb1) ⟨rfl, rfl, rfl, rfl⟩ (fun x hx e => h.sd.offL q hqm x hx e) ka.size hb1.size hp
        obtain ⟨a2, c2, e2, _, hb2, _⟩ := hp.rat
        simp only [Value.slice.injEq] at e2
        obtain ⟨rfl, _, rfl⟩ := e2
        refine ⟨a1, n + 1, c1, R ++ [q2], ?_, hS, ⟨fun x hx => .inr (hb2 x hx).1, fun z hz x hx => ?_⟩, hb1⟩
        · rw [show (((last + 1 : Nat) : Int)) = (last : Int) + 1 by omega]
        · rcases List.mem_append.1 hz with h' | h'
          · exact .inl (h.sd.offR z h' x hx).2
          · rw [List.mem_singleton] at h'; subst h'; exact .inr (hp.new x hx).1

end
end Go.Proofs.Ytgjjgfppolmkoaa
