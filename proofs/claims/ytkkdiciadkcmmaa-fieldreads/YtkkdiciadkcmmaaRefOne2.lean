/- What the document's reading of one field answers: what tkOne tells. -/
import Derived.Test.YtkkdiciadkcmmaaRefOne
namespace Go.Proofs.Ytkkdiciadkcmmaa
open Go.RowKit

abbrev fcells (T K : Nat) : Obj := .cells #[.int .u8 (T : Int), .int .u8 (K : Int), .int .i64 0, .string ByteArray.empty, .slice none 0 0, .slice none 0 0] 30

def endOf (s : St) : Nat := if s.2 then 0 else s.1
theorem endOf_yes {s : St} (h : s.2 = false) : endOf s = s.1 := by unfold endOf; rw [h]; rfl

theorem refnum_tk (a : Option Addr) (cap len : Nat) (l : List UInt8) (q n : Nat) (w : World) (hl : l.length = len) (hlen : len ≤ 140737488355328) (hn : n ≤ 8) (hn0 : 0 < n) (hat : At w a l) :
    Calls Try.prog 61 #[.slice a len cap, .int .i64 (q : Int), .int .i64 n] w fun e w' => e = .returned (.tuple #[.int .u64 ((tkN l n (q, false)).1 : Int), .bool (!(tkN l n (q, false)).2.2)]) ∧ w' = w := by
  refine (refnum_any a cap len l q n w hl hlen hn hn0 hat).mono ?_
  rintro e w' ⟨rfl, rfl⟩
  rcases Nat.lt_or_ge l.length (q + n) with h | h
  · obtain ⟨h1, h2, h3⟩ := rd_out (l := l) (p := q) (n := n) false h
    rw [h1, h2, h3]; exact ⟨rfl, rfl⟩
  · obtain ⟨V, h1, h2, h3, _⟩ := rd_in (l := l) (p := q) (n := n) h
    rw [h1, h2, h3]; exact ⟨rfl, rfl⟩

theorem reftext_tk (a : Option Addr) (cap len : Nat) (l : List UInt8) (q : Nat) (w : World) (hl : l.length = len) (hlen : len ≤ 140737488355328) (hcap : len ≤ cap) (hat : At w a l) :
    Calls Try.prog 62 #[.slice a len cap, .int .i64 (q : Int)] w fun e w' => e = .returned (.tuple #[.string (tkT l (q, false)).1, .int .i64 (endOf (tkT l (q, false)).2 : Int), .bool (!(tkT l (q, false)).2.2)]) ∧ w' = w := by
  by_cases h : q + 2 ≤ l.length ∧ q + 2 + numOf ((l.drop q).take 2) ≤ l.length
  · have e : tkT l (q, false) = (⟨((l.drop (q + 2)).take (numOf ((l.drop q).take 2))).toArray⟩, (q + 2 + numOf ((l.drop q).take 2), false)) := by unfold tkT; rw [if_pos h]
    have hv : rdV l q 2 = (numOf ((l.drop q).take 2) : Nat) := by unfold rdV; rw [if_pos ⟨by omega, by omega⟩]; simp
    rw [e]
    refine (reftext_yes a cap len l q _ w hl hlen hcap hat hv (by omega)).mono ?_
    rintro e w' ⟨rfl, rfl⟩
    refine ⟨?_, rfl⟩
    rw [endOf_yes rfl]
    simp
  · have e : tkT l (q, false) = (ByteArray.empty, (l.length, true)) := by unfold tkT; rw [if_neg h]
    rw [e]
    refine (reftext_no a cap len l q w hl hlen hat ?_).mono ?_
    · rintro ⟨_, h2, h3⟩
      have hv : rdV l q 2 = (numOf ((l.drop q).take 2) : Nat) := by unfold rdV; rw [if_pos ⟨by omega, by omega⟩]; simp
      rw [hv] at h3
      exact h ⟨by omega, by omega⟩
    · rintro e w' ⟨rfl, rfl⟩
      exact ⟨rfl, rfl⟩

/-- The tag and the kind are there. -/
theorem one_in {l : List UInt8} {p : Nat} (h : p + 2 ≤ l.length) : ∃ T K : Nat, T < 256 ∧ K < 256 ∧ tkN l 1 (p, false) = (T, (p + 1, false)) ∧ tkN l 1 (p + 1, false) = (K, (p + 1 + 1, false)) := by
  obtain ⟨T, _, _, h3, h4⟩ := rd_in (l := l) (p := p) (n := 1) (by omega)
  obtain ⟨K, _, _, k3, k4⟩ := rd_in (l := l) (p := p + 1) (n := 1) (by omega)
  exact ⟨T, K, by omega, by omega, h3, k3⟩

theorem OnePost.yes {l : List UInt8} {p : Nat} {w w' : World} {e : Ending} (it : It) (en : Int) (ok : Bool) (he : e = .returned (.tuple #[it.val, .int .i64 en, .bool ok])) (hb : Below w.heap.size w w') (h : ok = true ↔ Fine l p) (hok : ok = true → it.fd = (tkOne l (p, false)).1 ∧ en = ((tkOne l (p, false)).2.1 : Int) ∧ ItOwn w' w.heap.size it) : OnePost l p w w' e :=
  ⟨it, en, ok, he, hb, h, hok⟩

theorem fine_of {l : List UInt8} {p : Nat} {f : Fd} {s : St} (h : tkOne l (p, false) = (f, s)) (hk : f.kind = 1 ∨ f.kind = 2 ∨ f.kind = 3 ∨ f.kind = 4) : (!s.2) = true ↔ Fine l p := by
  unfold Fine
  rw [h]
  simp only [Bool.not_eq_true']
  exact ⟨fun e => ⟨e, hk⟩, fun e => e.1⟩

theorem two_alloc {w : World} (o1 o2 : Obj) : Below w.heap.size w ((w.alloc o1).alloc o2) := bnext (below_lit w _) (below_lit _ _)

set_option maxRecDepth 100000 in
set_option maxHeartbeats 1000000 in
theorem refone_cut (a : Option Addr) (len cap p : Nat) (l : List UInt8) (w : World) (hl : l.length = len) (hlen : len ≤ 100000) (hp : p ≤ len) (hat : At w a l) (h : len < p + 2) :
    Calls Try.prog 43 #[.slice a len cap, .int .i64 (p : Int)] w fun e w' => OnePost l p w w' e := by
  have hno : ¬ Fine l p := fine_cut (by omega)
  have hc1 := refnum_tk a cap len l p 1 (w.alloc (fcells 0 0)) hl (by omega) (by omega) (by omega) (hat.below (below_lit w _))
  have hc2 := refnum_tk a cap len l (p + 1) 1 (w.alloc (fcells 0 0)) hl (by omega) (by omega) (by omega) (hat.below (below_lit w _))
  have hT2 := tkN_lt l 1 (p, false)
  rw [(rd_out (l := l) (p := p + 1) (n := 1) false (by omega)).2.2] at hc2
  generalize tkN l 1 (p, false) = R at *
  obtain ⟨T, s⟩ := R
  replace hT2 : T < 256 := by simpa using hT2
  rw [show ((p + 1 : Nat) : Int) = (p : Int) + 1 by omega] at hc2
  dsimp only at hc1 hc2
  replace hno := hid hno
  go_enter Try.func43, Try.ntmps43
  go_wp2_with fail
  refine hc1.mono ?_
  rintro e w1 ⟨rfl, rfl⟩
  go_wp2_with fail
  refine hc2.mono ?_
  rintro e w1 ⟨rfl, rfl⟩
  go_wp2
  (try simp only [Exit.inBlock, Exit.then]); refine bodyPost_ret (results_field3 rfl _ _ w.heap.size _ _ _ _ _ _ rfl (heap_two w _ _).1) rfl ?_
  have := OnePost.no (l := l) (p := p) (w := w) ⟨⟨UInt8.ofNat T, UInt8.ofNat 0, 0, ByteArray.empty, [], []⟩, none, 0, none, 0⟩ 0 (two_alloc (fcells T 0) (fcells T 0)) hno.out
  rw [val_eq _ _ hT2 (by omega)] at this
  exact this

set_option maxRecDepth 100000 in
set_option maxHeartbeats 1000000 in
theorem refone_low (a : Option Addr) (len cap p T K : Nat) (l : List UInt8) (w : World) (hl : l.length = len) (hlen : len ≤ 100000) (hp : p ≤ len) (hat : At w a l) (hT2 : T < 256) (hK2 : K < 256) (hT : tkN l 1 (p, false) = (T, (p + 1, false))) (hK : tkN l 1 (p + 1, false) = (K, (p + 1 + 1, false))) (h : K < 1) :
    Calls Try.prog 43 #[.slice a len cap, .int .i64 (p : Int)] w fun e w' => OnePost l p w w' e := by
  have hno : ¬ Fine l p := fine_kind hT hK hK2 (by omega)
  have hc1 := refnum_tk a cap len l p 1 (w.alloc (fcells 0 0)) hl (by omega) (by omega) (by omega) (hat.below (below_lit w _))
  have hc2 := refnum_tk a cap len l (p + 1) 1 (w.alloc (fcells 0 0)) hl (by omega) (by omega) (by omega) (hat.below (below_lit w _))
  rw [hT] at hc1
  rw [hK] at hc2
  rw [show ((p + 1 : Nat) : Int) = (p : Int) + 1 by omega] at hc2
  dsimp only at hc1 hc2
  replace hno := hid hno
  clear hT hK
  have h5 : (K : Int) < 1 := by omega
  go_enter Try.func43, Try.ntmps43
  go_wp2_with fail
  refine hc1.mono ?_
  rintro e w1 ⟨rfl, rfl⟩
  go_wp2_with fail
  refine hc2.mono ?_
  rintro e w1 ⟨rfl, rfl⟩
  go_wp2
  (try simp only [Exit.inBlock, Exit.then]); refine bodyPost_ret (results_field3 rfl _ _ w.heap.size _ _ _ _ _ _ rfl (heap_two w _ _).1) rfl ?_
  have := OnePost.no (l := l) (p := p) (w := w) ⟨⟨UInt8.ofNat T, UInt8.ofNat K, 0, ByteArray.empty, [], []⟩, none, 0, none, 0⟩ 0 (two_alloc (fcells T K) (fcells T K)) hno.out
  rw [val_eq _ _ hT2 hK2] at this
  exact this

set_option maxRecDepth 100000 in
set_option maxHeartbeats 1000000 in
theorem refone_high (a : Option Addr) (len cap p T K : Nat) (l : List UInt8) (w : World) (hl : l.length = len) (hlen : len ≤ 100000) (hp : p ≤ len) (hat : At w a l) (hT2 : T < 256) (hK2 : K < 256) (hT : tkN l 1 (p, false) = (T, (p + 1, false))) (hK : tkN l 1 (p + 1, false) = (K, (p + 1 + 1, false))) (h : 4 < K) :
    Calls Try.prog 43 #[.slice a len cap, .int .i64 (p : Int)] w fun e w' => OnePost l p w w' e := by
  have hno : ¬ Fine l p := fine_kind hT hK hK2 (by omega)
  have hc1 := refnum_tk a cap len l p 1 (w.alloc (fcells 0 0)) hl (by omega) (by omega) (by omega) (hat.below (below_lit w _))
  have hc2 := refnum_tk a cap len l (p + 1) 1 (w.alloc (fcells 0 0)) hl (by omega) (by omega) (by omega) (hat.below (below_lit w _))
  rw [hT] at hc1
  rw [hK] at hc2
  rw [show ((p + 1 : Nat) : Int) = (p : Int) + 1 by omega] at hc2
  dsimp only at hc1 hc2
  replace hno := hid hno
  clear hT hK
  have h5 : ¬ K < 1 := by omega
  go_enter Try.func43, Try.ntmps43
  go_wp2_with fail
  refine hc1.mono ?_
  rintro e w1 ⟨rfl, rfl⟩
  go_wp2_with fail
  refine hc2.mono ?_
  rintro e w1 ⟨rfl, rfl⟩
  go_wp2
  (try simp only [Exit.inBlock, Exit.then]); refine bodyPost_ret (results_field3 rfl _ _ w.heap.size _ _ _ _ _ _ rfl (heap_two w _ _).1) rfl ?_
  have := OnePost.no (l := l) (p := p) (w := w) ⟨⟨UInt8.ofNat T, UInt8.ofNat K, 0, ByteArray.empty, [], []⟩, none, 0, none, 0⟩ 0 (two_alloc (fcells T K) (fcells T K)) hno.out
  rw [val_eq _ _ hT2 hK2] at this
  exact this

set_option maxRecDepth 100000 in
set_option maxHeartbeats 1000000 in
theorem refone1 (a : Option Addr) (len cap p T : Nat) (l : List UInt8) (w : World) (hl : l.length = len) (hlen : len ≤ 100000) (hp : p ≤ len) (_hcap : len ≤ cap) (hat : At w a l) (hT2 : T < 256) (hT : tkN l 1 (p, false) = (T, (p + 1, false))) (hK : tkN l 1 (p + 1, false) = (1, (p + 1 + 1, false))) :
    Calls Try.prog 43 #[.slice a len cap, .int .i64 (p : Int)] w fun e w' => OnePost l p w w' e := by
  have hE := tkOne_eq l (p, false) _ _ hT.symm hK.symm
  have hc1 := refnum_tk a cap len l p 1 (w.alloc (fcells 0 0)) hl (by omega) (by omega) (by omega) (hat.below (below_lit w _))
  have hc2 := refnum_tk a cap len l (p + 1) 1 (w.alloc (fcells 0 0)) hl (by omega) (by omega) (by omega) (hat.below (below_lit w _))
  have hc3 := refnum_tk a cap len l (p + 1 + 1) 8 ((w.alloc (fcells 0 0)).alloc (fcells T 1)) hl (by omega) (by omega) (by omega) (hat.below (two_alloc _ _))
  rw [hT] at hc1
  rw [hK] at hc2
  rw [show ((p + 1 : Nat) : Int) = (p : Int) + 1 by omega] at hc2
  rw [show ((p + 1 + 1 : Nat) : Int) = (p : Int) + 2 by omega] at hc3
  dsimp only at hc1 hc2
  simp only [Nat.reduceEqDiff, reduceIte] at hE
  have hV := tkN_lt l 8 (p + 1 + 1, false)
  have hs := tkN_sound (l := l) (n := 8) (s := (p + 1 + 1, false))
  unfold tkI at hE
  generalize tkN l 8 (p + 1 + 1, false) = R at *
  obtain ⟨V, q, wr⟩ := R
  dsimp only at hE hc3 hV hs
  have hw := i64_wrap V hV
  replace hs := hid hs
  replace hE := hid hE
  clear hT hK
  go_enter Try.func43, Try.ntmps43
  go_wp2_with fail
  refine hc1.mono ?_
  rintro e w1 ⟨rfl, rfl⟩
  go_wp2_with fail
  refine hc2.mono ?_
  rintro e w1 ⟨rfl, rfl⟩
  go_wp2_with fail
  refine hc3.mono ?_
  rintro e w1 ⟨rfl, rfl⟩
  go_wp2
  (try simp only [Exit.inBlock, Exit.then]); refine bodyPost_ret (results_field3 rfl _ _ w.heap.size _ _ _ _ _ _ rfl (heap_two w _ _).1) rfl ?_
  exact OnePost.yes ⟨⟨UInt8.ofNat T, UInt8.ofNat 1, i64 V, ByteArray.empty, [], []⟩, none, 0, none, 0⟩ ((p : Int) + 2 + 8) (!wr) (by rw [val_eq _ _ hT2 (by omega)]; rfl) (two_alloc _ _) (fine_of hE.out (by simp)) (fun e => ⟨by rw [hE.out], by rw [hE.out]; have := (hs.out (by simpa using e)).2; dsimp only; omega, ⟨Nums.nil _ _, Txts.nil _ _⟩⟩)

set_option maxRecDepth 100000 in
set_option maxHeartbeats 1000000 in
theorem refone2 (a : Option Addr) (len cap p T : Nat) (l : List UInt8) (w : World) (hl : l.length = len) (hlen : len ≤ 100000) (hp : p ≤ len) (hcap : len ≤ cap) (hat : At w a l) (hT2 : T < 256) (hT : tkN l 1 (p, false) = (T, (p + 1, false))) (hK : tkN l 1 (p + 1, false) = (2, (p + 1 + 1, false))) :
    Calls Try.prog 43 #[.slice a len cap, .int .i64 (p : Int)] w fun e w' => OnePost l p w w' e := by
  have hE := tkOne_eq l (p, false) _ _ hT.symm hK.symm
  have hc1 := refnum_tk a cap len l p 1 (w.alloc (fcells 0 0)) hl (by omega) (by omega) (by omega) (hat.below (below_lit w _))
  have hc2 := refnum_tk a cap len l (p + 1) 1 (w.alloc (fcells 0 0)) hl (by omega) (by omega) (by omega) (hat.below (below_lit w _))
  have hc3 := reftext_tk a cap len l (p + 1 + 1) ((w.alloc (fcells 0 0)).alloc (fcells T 2)) hl (by omega) hcap (hat.below (two_alloc _ _))
  rw [hT] at hc1
  rw [hK] at hc2
  rw [show ((p + 1 : Nat) : Int) = (p : Int) + 1 by omega] at hc2
  rw [show ((p + 1 + 1 : Nat) : Int) = (p : Int) + 2 by omega] at hc3
  dsimp only at hc1 hc2
  simp only [Nat.reduceEqDiff, reduceIte] at hE
  generalize tkT l (p + 1 + 1, false) = R at *
  obtain ⟨V, q, wr⟩ := R
  dsimp only at hE hc3
  replace hE := hid hE
  clear hT hK
  go_enter Try.func43, Try.ntmps43
  go_wp2_with fail
  refine hc1.mono ?_
  rintro e w1 ⟨rfl, rfl⟩
  go_wp2_with fail
  refine hc2.mono ?_
  rintro e w1 ⟨rfl, rfl⟩
  go_wp2_with fail
  refine hc3.mono ?_
  rintro e w1 ⟨rfl, rfl⟩
  go_wp2
  (try simp only [Exit.inBlock, Exit.then]); refine bodyPost_ret (results_field3 rfl _ _ w.heap.size _ _ _ _ _ _ rfl (heap_two w _ _).1) rfl ?_
  exact OnePost.yes ⟨⟨UInt8.ofNat T, UInt8.ofNat 2, 0, V, [], []⟩, none, 0, none, 0⟩ (endOf (q, wr) : Int) (!wr) (by rw [val_eq _ _ hT2 (by omega)]; rfl) (two_alloc _ _) (fine_of hE.out (by simp)) (fun e => ⟨by rw [hE.out], by rw [hE.out]; rw [endOf_yes (by simpa using e)], ⟨Nums.nil _ _, Txts.nil _ _⟩⟩)

end Go.Proofs.Ytkkdiciadkcmmaa
