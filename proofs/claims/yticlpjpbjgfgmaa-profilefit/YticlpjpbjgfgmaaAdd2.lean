/- The closure that adds a step; Add of the program. -/
import Derived.Test.YticlpjpbjgfgmaaPut
namespace Go.Proofs.Yticlpjpbjgfgmaa
open Go.RowKit
set_option linter.unusedVariables false

def s1 (b a f : Int) (s : List Cut × Bool) : List Cut × Bool := if b < a then putS s b f else s
def s2 (b e a c f n : Int) (s : List Cut × Bool) : List Cut × Bool := if b < c ∧ a < e then putS s (max b a) (f + n) else s
def s3 (b e c f : Int) (s : List Cut × Bool) : List Cut × Bool := if c < e then putS s (max b c) f else s

set_option maxRecDepth 100000 in
set_option maxHeartbeats 400000 in
theorem add2_A1 (w0 : World) (gf gp gt gn go gs rb : Nat) (a c n b e f : Int) (s : List Cut × Bool) (w : World) (h : AS w0 w gf gp gt gn go gs rb a c n s) (hl : s.1.length ≤ 15000) (hbe : b < e) (hac : a < c) (hf0 : 0 ≤ f) (hf1 : f ≤ 1073741824) (hn0 : -1073741824 ≤ n) (hn1 : n ≤ 1073741824) (k1 : b < a) (k2 : a < e) (k3 : c < e) :
    Calls Try.prog 78 #[.int .i64 b, .int .i64 e, .int .i64 f, ptr gf, ptr gp, ptr gt, ptr gn] w fun x w' => x = .returned (.tuple #[]) ∧ AS w0 w' gf gp gt gn go gs rb a c n (s3 b e c f (s2 b e a c f n (s1 b a f s))) := by
  have e1 := hid (show s1 b a f s = putS s b f from if_pos (by omega))
  have e2 := hid (fun s => show s2 b e a c f n s = putS s a (f + n) by unfold s2; rw [if_pos ⟨by omega, by omega⟩, show max b a = a by omega])
  have e3 := hid (fun s => show s3 b e c f s = putS s c f by unfold s3; rw [if_pos (by omega), show max b c = c by omega])
  have hw : IntKind.i64.wrap (f + n) = f + n := by rw [IntKind.wrap_i64]; omega
  have d0 : decide (b < a) = true := decide_eq_true (by omega)
  have d1 : decide (b < c) = true := decide_eq_true (by omega)
  have d2 : decide (a < e) = true := decide_eq_true (by omega)
  have d3 : decide (c < e) = true := decide_eq_true (by omega)
  have cf0 := h.f.cell
  have ct0 := h.t.cell
  have cn0 := h.n.cell
  have cp0 := h.p.cell
  unfold ptr at *
  replace h := hid h
  replace hl := hid hl
  go_enter Try.func78, Try.ntmps78
  go_wp2_with fail
  refine (put_any w0 gf gp gt gn go gs rb a c n b f s _ h.out (by have := hl.out; omega)).mono ?_
  rintro x w1 ⟨rfl, h1⟩
  have cf1 := h1.f.cell
  have ct1 := h1.t.cell
  have cn1 := h1.n.cell
  have cp1 := h1.p.cell
  replace h1 := hid h1
  clear cf0 ct0 cn0 cp0
  go_wp2_with fail
  refine (put_any w0 gf gp gt gn go gs rb a c n a (f + n) (putS s b f) _ h1.out (by have := hl.out; have := putS_len s b f; omega)).mono ?_
  rintro x w2 ⟨rfl, h2⟩
  have cf2 := h2.f.cell
  have ct2 := h2.t.cell
  have cn2 := h2.n.cell
  have cp2 := h2.p.cell
  replace h2 := hid h2
  clear cf1 ct1 cn1 cp1
  go_wp2_with fail
  refine (put_any w0 gf gp gt gn go gs rb a c n c f (putS (putS s b f) a (f + n)) _ h2.out (by have := hl.out; have := putS_len s b f; have := putS_len (putS s b f) a (f + n); omega)).mono ?_
  rintro x w3 ⟨rfl, h3⟩
  have cf3 := h3.f.cell
  have ct3 := h3.t.cell
  have cn3 := h3.n.cell
  have cp3 := h3.p.cell
  replace h3 := hid h3
  clear cf2 ct2 cn2 cp2
  go_wp2
  go_end0
  rw [e1.out, e2.out, e3.out]
  exact ⟨rfl, h3.out⟩

set_option maxRecDepth 100000 in
set_option maxHeartbeats 400000 in
theorem add2_A2 (w0 : World) (gf gp gt gn go gs rb : Nat) (a c n b e f : Int) (s : List Cut × Bool) (w : World) (h : AS w0 w gf gp gt gn go gs rb a c n s) (hl : s.1.length ≤ 15000) (hbe : b < e) (hac : a < c) (hf0 : 0 ≤ f) (hf1 : f ≤ 1073741824) (hn0 : -1073741824 ≤ n) (hn1 : n ≤ 1073741824) (k1 : b < a) (k2 : a < e) (k3 : ¬ c < e) :
    Calls Try.prog 78 #[.int .i64 b, .int .i64 e, .int .i64 f, ptr gf, ptr gp, ptr gt, ptr gn] w fun x w' => x = .returned (.tuple #[]) ∧ AS w0 w' gf gp gt gn go gs rb a c n (s3 b e c f (s2 b e a c f n (s1 b a f s))) := by
  have e1 := hid (show s1 b a f s = putS s b f from if_pos (by omega))
  have e2 := hid (fun s => show s2 b e a c f n s = putS s a (f + n) by unfold s2; rw [if_pos ⟨by omega, by omega⟩, show max b a = a by omega])
  have e3 := hid (fun s => show s3 b e c f s = s from if_neg (by omega))
  have hw : IntKind.i64.wrap (f + n) = f + n := by rw [IntKind.wrap_i64]; omega
  have d0 : decide (b < a) = true := decide_eq_true (by omega)
  have d1 : decide (b < c) = true := decide_eq_true (by omega)
  have d2 : decide (a < e) = true := decide_eq_true (by omega)
  have d3 : decide (c < e) = false := decide_eq_false (by omega)
  have cf0 := h.f.cell
  have ct0 := h.t.cell
  have cn0 := h.n.cell
  have cp0 := h.p.cell
  unfold ptr at *
  replace h := hid h
  replace hl := hid hl
  go_enter Try.func78, Try.ntmps78
  go_wp2_with fail
  refine (put_any w0 gf gp gt gn go gs rb a c n b f s _ h.out (by have := hl.out; omega)).mono ?_
  rintro x w1 ⟨rfl, h1⟩
  have cf1 := h1.f.cell
  have ct1 := h1.t.cell
  have cn1 := h1.n.cell
  have cp1 := h1.p.cell
  replace h1 := hid h1
  clear cf0 ct0 cn0 cp0
  go_wp2_with fail
  refine (put_any w0 gf gp gt gn go gs rb a c n a (f + n) (putS s b f) _ h1.out (by have := hl.out; have := putS_len s b f; omega)).mono ?_
  rintro x w2 ⟨rfl, h2⟩
  have cf2 := h2.f.cell
  have ct2 := h2.t.cell
  have cn2 := h2.n.cell
  have cp2 := h2.p.cell
  replace h2 := hid h2
  clear cf1 ct1 cn1 cp1
  go_wp2
  go_end0
  rw [e1.out, e2.out, e3.out]
  exact ⟨rfl, h2.out⟩

set_option maxRecDepth 100000 in
set_option maxHeartbeats 400000 in
theorem add2_A3 (w0 : World) (gf gp gt gn go gs rb : Nat) (a c n b e f : Int) (s : List Cut × Bool) (w : World) (h : AS w0 w gf gp gt gn go gs rb a c n s) (hl : s.1.length ≤ 15000) (hbe : b < e) (hac : a < c) (hf0 : 0 ≤ f) (hf1 : f ≤ 1073741824) (hn0 : -1073741824 ≤ n) (hn1 : n ≤ 1073741824) (k1 : b < a) (k2 : ¬ a < e) (k3 : ¬ c < e) :
    Calls Try.prog 78 #[.int .i64 b, .int .i64 e, .int .i64 f, ptr gf, ptr gp, ptr gt, ptr gn] w fun x w' => x = .returned (.tuple #[]) ∧ AS w0 w' gf gp gt gn go gs rb a c n (s3 b e c f (s2 b e a c f n (s1 b a f s))) := by
  have e1 := hid (show s1 b a f s = putS s b f from if_pos (by omega))
  have e2 := hid (fun s => show s2 b e a c f n s = s from if_neg (by omega))
  have e3 := hid (fun s => show s3 b e c f s = s from if_neg (by omega))
  have hw : IntKind.i64.wrap (f + n) = f + n := by rw [IntKind.wrap_i64]; omega
  have d0 : decide (b < a) = true := decide_eq_true (by omega)
  have d1 : decide (b < c) = true := decide_eq_true (by omega)
  have d2 : decide (a < e) = false := decide_eq_false (by omega)
  have d3 : decide (c < e) = false := decide_eq_false (by omega)
  have cf0 := h.f.cell
  have ct0 := h.t.cell
  have cn0 := h.n.cell
  have cp0 := h.p.cell
  unfold ptr at *
  replace h := hid h
  replace hl := hid hl
  go_enter Try.func78, Try.ntmps78
  go_wp2_with fail
  refine (put_any w0 gf gp gt gn go gs rb a c n b f s _ h.out (by have := hl.out; omega)).mono ?_
  rintro x w1 ⟨rfl, h1⟩
  have cf1 := h1.f.cell
  have ct1 := h1.t.cell
  have cn1 := h1.n.cell
  have cp1 := h1.p.cell
  replace h1 := hid h1
  clear cf0 ct0 cn0 cp0
  go_wp2
  go_end0
  rw [e1.out, e2.out, e3.out]
  exact ⟨rfl, h1.out⟩

set_option maxRecDepth 100000 in
set_option maxHeartbeats 400000 in
theorem add2_B1 (w0 : World) (gf gp gt gn go gs rb : Nat) (a c n b e f : Int) (s : List Cut × Bool) (w : World) (h : AS w0 w gf gp gt gn go gs rb a c n s) (hl : s.1.length ≤ 15000) (hbe : b < e) (hac : a < c) (hf0 : 0 ≤ f) (hf1 : f ≤ 1073741824) (hn0 : -1073741824 ≤ n) (hn1 : n ≤ 1073741824) (k1 : b = a) (k2 : b < c) (k3 : c < e) :
    Calls Try.prog 78 #[.int .i64 b, .int .i64 e, .int .i64 f, ptr gf, ptr gp, ptr gt, ptr gn] w fun x w' => x = .returned (.tuple #[]) ∧ AS w0 w' gf gp gt gn go gs rb a c n (s3 b e c f (s2 b e a c f n (s1 b a f s))) := by
  have e1 := hid (show s1 b a f s = s from if_neg (by omega))
  have e2 := hid (fun s => show s2 b e a c f n s = putS s b (f + n) by unfold s2; rw [if_pos ⟨by omega, by omega⟩, show max b a = b by omega])
  have e3 := hid (fun s => show s3 b e c f s = putS s c f by unfold s3; rw [if_pos (by omega), show max b c = c by omega])
  have hw : IntKind.i64.wrap (f + n) = f + n := by rw [IntKind.wrap_i64]; omega
  have d0 : decide (b < a) = false := decide_eq_false (by omega)
  have d1 : decide (b < c) = true := decide_eq_true (by omega)
  have d2 : decide (a < e) = true := decide_eq_true (by omega)
  have d3 : decide (c < e) = true := decide_eq_true (by omega)
  subst k1
  have cf0 := h.f.cell
  have ct0 := h.t.cell
  have cn0 := h.n.cell
  have cp0 := h.p.cell
  unfold ptr at *
  replace h := hid h
  replace hl := hid hl
  go_enter Try.func78, Try.ntmps78
  go_wp2_with fail
  refine (put_any w0 gf gp gt gn go gs rb b c n b (f + n) s _ h.out (by have := hl.out; omega)).mono ?_
  rintro x w1 ⟨rfl, h1⟩
  have cf1 := h1.f.cell
  have ct1 := h1.t.cell
  have cn1 := h1.n.cell
  have cp1 := h1.p.cell
  replace h1 := hid h1
  clear cf0 ct0 cn0 cp0
  go_wp2_with fail
  refine (put_any w0 gf gp gt gn go gs rb b c n c f (putS s b (f + n)) _ h1.out (by have := hl.out; have := putS_len s b (f + n); omega)).mono ?_
  rintro x w2 ⟨rfl, h2⟩
  have cf2 := h2.f.cell
  have ct2 := h2.t.cell
  have cn2 := h2.n.cell
  have cp2 := h2.p.cell
  replace h2 := hid h2
  clear cf1 ct1 cn1 cp1
  go_wp2
  go_end0
  rw [e1.out, e2.out, e3.out]
  exact ⟨rfl, h2.out⟩

set_option maxRecDepth 100000 in
set_option maxHeartbeats 400000 in
theorem add2_B2 (w0 : World) (gf gp gt gn go gs rb : Nat) (a c n b e f : Int) (s : List Cut × Bool) (w : World) (h : AS w0 w gf gp gt gn go gs rb a c n s) (hl : s.1.length ≤ 15000) (hbe : b < e) (hac : a < c) (hf0 : 0 ≤ f) (hf1 : f ≤ 1073741824) (hn0 : -1073741824 ≤ n) (hn1 : n ≤ 1073741824) (k1 : b = a) (k2 : b < c) (k3 : ¬ c < e) :
    Calls Try.prog 78 #[.int .i64 b, .int .i64 e, .int .i64 f, ptr gf, ptr gp, ptr gt, ptr gn] w fun x w' => x = .returned (.tuple #[]) ∧ AS w0 w' gf gp gt gn go gs rb a c n (s3 b e c f (s2 b e a c f n (s1 b a f s))) := by
  have e1 := hid (show s1 b a f s = s from if_neg (by omega))
  have e2 := hid (fun s => show s2 b e a c f n s = putS s b (f + n) by unfold s2; rw [if_pos ⟨by omega, by omega⟩, show max b a = b by omega])
  have e3 := hid (fun s => show s3 b e c f s = s from if_neg (by omega))
  have hw : IntKind.i64.wrap (f + n) = f + n := by rw [IntKind.wrap_i64]; omega
  have d0 : decide (b < a) = false := decide_eq_false (by omega)
  have d1 : decide (b < c) = true := decide_eq_true (by omega)
  have d2 : decide (a < e) = true := decide_eq_true (by omega)
  have d3 : decide (c < e) = false := decide_eq_false (by omega)
  subst k1
  have cf0 := h.f.cell
  have ct0 := h.t.cell
  have cn0 := h.n.cell
  have cp0 := h.p.cell
  unfold ptr at *
  replace h := hid h
  replace hl := hid hl
  go_enter Try.func78, Try.ntmps78
  go_wp2_with fail
  refine (put_any w0 gf gp gt gn go gs rb b c n b (f + n) s _ h.out (by have := hl.out; omega)).mono ?_
  rintro x w1 ⟨rfl, h1⟩
  have cf1 := h1.f.cell
  have ct1 := h1.t.cell
  have cn1 := h1.n.cell
  have cp1 := h1.p.cell
  replace h1 := hid h1
  clear cf0 ct0 cn0 cp0
  go_wp2
  go_end0
  rw [e1.out, e2.out, e3.out]
  exact ⟨rfl, h1.out⟩

set_option maxRecDepth 100000 in
set_option maxHeartbeats 400000 in
theorem add2_B3 (w0 : World) (gf gp gt gn go gs rb : Nat) (a c n b e f : Int) (s : List Cut × Bool) (w : World) (h : AS w0 w gf gp gt gn go gs rb a c n s) (hl : s.1.length ≤ 15000) (hbe : b < e) (hac : a < c) (hf0 : 0 ≤ f) (hf1 : f ≤ 1073741824) (hn0 : -1073741824 ≤ n) (hn1 : n ≤ 1073741824) (k1 : a < b) (k2 : b < c) (k3 : c < e) :
    Calls Try.prog 78 #[.int .i64 b, .int .i64 e, .int .i64 f, ptr gf, ptr gp, ptr gt, ptr gn] w fun x w' => x = .returned (.tuple #[]) ∧ AS w0 w' gf gp gt gn go gs rb a c n (s3 b e c f (s2 b e a c f n (s1 b a f s))) := by
  have e1 := hid (show s1 b a f s = s from if_neg (by omega))
  have e2 := hid (fun s => show s2 b e a c f n s = putS s b (f + n) by unfold s2; rw [if_pos ⟨by omega, by omega⟩, show max b a = b by omega])
  have e3 := hid (fun s => show s3 b e c f s = putS s c f by unfold s3; rw [if_pos (by omega), show max b c = c by omega])
  have hw : IntKind.i64.wrap (f + n) = f + n := by rw [IntKind.wrap_i64]; omega
  have d0 : decide (b < a) = false := decide_eq_false (by omega)
  have d1 : decide (b < c) = true := decide_eq_true (by omega)
  have d2 : decide (a < e) = true := decide_eq_true (by omega)
  have d3 : decide (c < e) = true := decide_eq_true (by omega)
  have cf0 := h.f.cell
  have ct0 := h.t.cell
  have cn0 := h.n.cell
  have cp0 := h.p.cell
  unfold ptr at *
  replace h := hid h
  replace hl := hid hl
  go_enter Try.func78, Try.ntmps78
  go_wp2_with fail
  refine (put_any w0 gf gp gt gn go gs rb a c n b (f + n) s _ h.out (by have := hl.out; omega)).mono ?_
  rintro x w1 ⟨rfl, h1⟩
  have cf1 := h1.f.cell
  have ct1 := h1.t.cell
  have cn1 := h1.n.cell
  have cp1 := h1.p.cell
  replace h1 := hid h1
  clear cf0 ct0 cn0 cp0
  go_wp2_with fail
  refine (put_any w0 gf gp gt gn go gs rb a c n c f (putS s b (f + n)) _ h1.out (by have := hl.out; have := putS_len s b (f + n); omega)).mono ?_
  rintro x w2 ⟨rfl, h2⟩
  have cf2 := h2.f.cell
  have ct2 := h2.t.cell
  have cn2 := h2.n.cell
  have cp2 := h2.p.cell
  replace h2 := hid h2
  clear cf1 ct1 cn1 cp1
  go_wp2
  go_end0
  rw [e1.out, e2.out, e3.out]
  exact ⟨rfl, h2.out⟩

set_option maxRecDepth 100000 in
set_option maxHeartbeats 400000 in
theorem add2_B4 (w0 : World) (gf gp gt gn go gs rb : Nat) (a c n b e f : Int) (s : List Cut × Bool) (w : World) (h : AS w0 w gf gp gt gn go gs rb a c n s) (hl : s.1.length ≤ 15000) (hbe : b < e) (hac : a < c) (hf0 : 0 ≤ f) (hf1 : f ≤ 1073741824) (hn0 : -1073741824 ≤ n) (hn1 : n ≤ 1073741824) (k1 : a < b) (k2 : b < c) (k3 : ¬ c < e) :
    Calls Try.prog 78 #[.int .i64 b, .int .i64 e, .int .i64 f, ptr gf, ptr gp, ptr gt, ptr gn] w fun x w' => x = .returned (.tuple #[]) ∧ AS w0 w' gf gp gt gn go gs rb a c n (s3 b e c f (s2 b e a c f n (s1 b a f s))) := by
  have e1 := hid (show s1 b a f s = s from if_neg (by omega))
  have e2 := hid (fun s => show s2 b e a c f n s = putS s b (f + n) by unfold s2; rw [if_pos ⟨by omega, by omega⟩, show max b a = b by omega])
  have e3 := hid (fun s => show s3 b e c f s = s from if_neg (by omega))
  have hw : IntKind.i64.wrap (f + n) = f + n := by rw [IntKind.wrap_i64]; omega
  have d0 : decide (b < a) = false := decide_eq_false (by omega)
  have d1 : decide (b < c) = true := decide_eq_true (by omega)
  have d2 : decide (a < e) = true := decide_eq_true (by omega)
  have d3 : decide (c < e) = false := decide_eq_false (by omega)
  have cf0 := h.f.cell
  have ct0 := h.t.cell
  have cn0 := h.n.cell
  have cp0 := h.p.cell
  unfold ptr at *
  replace h := hid h
  replace hl := hid hl
  go_enter Try.func78, Try.ntmps78
  go_wp2_with fail
  refine (put_any w0 gf gp gt gn go gs rb a c n b (f + n) s _ h.out (by have := hl.out; omega)).mono ?_
  rintro x w1 ⟨rfl, h1⟩
  have cf1 := h1.f.cell
  have ct1 := h1.t.cell
  have cn1 := h1.n.cell
  have cp1 := h1.p.cell
  replace h1 := hid h1
  clear cf0 ct0 cn0 cp0
  go_wp2
  go_end0
  rw [e1.out, e2.out, e3.out]
  exact ⟨rfl, h1.out⟩

set_option maxRecDepth 100000 in
set_option maxHeartbeats 400000 in
theorem add2_C1 (w0 : World) (gf gp gt gn go gs rb : Nat) (a c n b e f : Int) (s : List Cut × Bool) (w : World) (h : AS w0 w gf gp gt gn go gs rb a c n s) (hl : s.1.length ≤ 15000) (hbe : b < e) (hac : a < c) (hf0 : 0 ≤ f) (hf1 : f ≤ 1073741824) (hn0 : -1073741824 ≤ n) (hn1 : n ≤ 1073741824) (k1 : a < b) (k2 : b = c) (k3 : c < e) :
    Calls Try.prog 78 #[.int .i64 b, .int .i64 e, .int .i64 f, ptr gf, ptr gp, ptr gt, ptr gn] w fun x w' => x = .returned (.tuple #[]) ∧ AS w0 w' gf gp gt gn go gs rb a c n (s3 b e c f (s2 b e a c f n (s1 b a f s))) := by
  have e1 := hid (show s1 b a f s = s from if_neg (by omega))
  have e2 := hid (fun s => show s2 b e a c f n s = s from if_neg (by omega))
  have e3 := hid (fun s => show s3 b e c f s = putS s b f by unfold s3; rw [if_pos (by omega), show max b c = b by omega])
  have hw : IntKind.i64.wrap (f + n) = f + n := by rw [IntKind.wrap_i64]; omega
  have d0 : decide (b < a) = false := decide_eq_false (by omega)
  have d1 : decide (b < c) = false := decide_eq_false (by omega)
  have d2 : decide (a < e) = true := decide_eq_true (by omega)
  have d3 : decide (c < e) = true := decide_eq_true (by omega)
  subst k2
  have cf0 := h.f.cell
  have ct0 := h.t.cell
  have cn0 := h.n.cell
  have cp0 := h.p.cell
  unfold ptr at *
  replace h := hid h
  replace hl := hid hl
  go_enter Try.func78, Try.ntmps78
  go_wp2_with fail
  refine (put_any w0 gf gp gt gn go gs rb a b n b f s _ h.out (by have := hl.out; omega)).mono ?_
  rintro x w1 ⟨rfl, h1⟩
  have cf1 := h1.f.cell
  have ct1 := h1.t.cell
  have cn1 := h1.n.cell
  have cp1 := h1.p.cell
  replace h1 := hid h1
  clear cf0 ct0 cn0 cp0
  go_wp2
  go_end0
  rw [e1.out, e2.out, e3.out]
  exact ⟨rfl, h1.out⟩

set_option maxRecDepth 100000 in
set_option maxHeartbeats 400000 in
theorem add2_C2 (w0 : World) (gf gp gt gn go gs rb : Nat) (a c n b e f : Int) (s : List Cut × Bool) (w : World) (h : AS w0 w gf gp gt gn go gs rb a c n s) (hl : s.1.length ≤ 15000) (hbe : b < e) (hac : a < c) (hf0 : 0 ≤ f) (hf1 : f ≤ 1073741824) (hn0 : -1073741824 ≤ n) (hn1 : n ≤ 1073741824) (k1 : a < b) (k2 : c < b) (k3 : c < e) :
    Calls Try.prog 78 #[.int .i64 b, .int .i64 e, .int .i64 f, ptr gf, ptr gp, ptr gt, ptr gn] w fun x w' => x = .returned (.tuple #[]) ∧ AS w0 w' gf gp gt gn go gs rb a c n (s3 b e c f (s2 b e a c f n (s1 b a f s))) := by
  have e1 := hid (show s1 b a f s = s from if_neg (by omega))
  have e2 := hid (fun s => show s2 b e a c f n s = s from if_neg (by omega))
  have e3 := hid (fun s => show s3 b e c f s = putS s b f by unfold s3; rw [if_pos (by omega), show max b c = b by omega])
  have hw : IntKind.i64.wrap (f + n) = f + n := by rw [IntKind.wrap_i64]; omega
  have d0 : decide (b < a) = false := decide_eq_false (by omega)
  have d1 : decide (b < c) = false := decide_eq_false (by omega)
  have d2 : decide (a < e) = true := decide_eq_true (by omega)
  have d3 : decide (c < e) = true := decide_eq_true (by omega)
  have cf0 := h.f.cell
  have ct0 := h.t.cell
  have cn0 := h.n.cell
  have cp0 := h.p.cell
  unfold ptr at *
  replace h := hid h
  replace hl := hid hl
  go_enter Try.func78, Try.ntmps78
  go_wp2_with fail
  refine (put_any w0 gf gp gt gn go gs rb a c n b f s _ h.out (by have := hl.out; omega)).mono ?_
  rintro x w1 ⟨rfl, h1⟩
  have cf1 := h1.f.cell
  have ct1 := h1.t.cell
  have cn1 := h1.n.cell
  have cp1 := h1.p.cell
  replace h1 := hid h1
  clear cf0 ct0 cn0 cp0
  go_wp2
  go_end0
  rw [e1.out, e2.out, e3.out]
  exact ⟨rfl, h1.out⟩

theorem add2_any (w0 : World) (gf gp gt gn go gs rb : Nat) (a c n b e f : Int) (s : List Cut × Bool) (w : World) (h : AS w0 w gf gp gt gn go gs rb a c n s) (hl : s.1.length ≤ 15000) (hbe : b < e) (hac : a < c) (hf0 : 0 ≤ f) (hf1 : f ≤ 1073741824) (hn0 : -1073741824 ≤ n) (hn1 : n ≤ 1073741824) :
    Calls Try.prog 78 #[.int .i64 b, .int .i64 e, .int .i64 f, ptr gf, ptr gp, ptr gt, ptr gn] w fun x w' => x = .returned (.tuple #[]) ∧ AS w0 w' gf gp gt gn go gs rb a c n (s3 b e c f (s2 b e a c f n (s1 b a f s))) := by
  rcases Int.lt_trichotomy b a with k1 | k1 | k1
  · by_cases k2 : a < e
    · by_cases k3 : c < e
      · exact add2_A1 w0 gf gp gt gn go gs rb a c n b e f s w h hl hbe hac hf0 hf1 hn0 hn1 k1 k2 k3
      · exact add2_A2 w0 gf gp gt gn go gs rb a c n b e f s w h hl hbe hac hf0 hf1 hn0 hn1 k1 k2 k3
    · exact add2_A3 w0 gf gp gt gn go gs rb a c n b e f s w h hl hbe hac hf0 hf1 hn0 hn1 k1 k2 (by omega)
  · by_cases k3 : c < e
    · exact add2_B1 w0 gf gp gt gn go gs rb a c n b e f s w h hl hbe hac hf0 hf1 hn0 hn1 k1 (by omega) k3
    · exact add2_B2 w0 gf gp gt gn go gs rb a c n b e f s w h hl hbe hac hf0 hf1 hn0 hn1 k1 (by omega) k3
  · rcases Int.lt_trichotomy b c with k2 | k2 | k2
    · by_cases k3 : c < e
      · exact add2_B3 w0 gf gp gt gn go gs rb a c n b e f s w h hl hbe hac hf0 hf1 hn0 hn1 k1 k2 k3
      · exact add2_B4 w0 gf gp gt gn go gs rb a c n b e f s w h hl hbe hac hf0 hf1 hn0 hn1 k1 k2 k3
    · exact add2_C1 w0 gf gp gt gn go gs rb a c n b e f s w h hl hbe hac hf0 hf1 hn0 hn1 k1 k2 (by omega)
    · exact add2_C2 w0 gf gp gt gn go gs rb a c n b e f s w h hl hbe hac hf0 hf1 hn0 hn1 k1 k2 (by omega)

end Go.Proofs.Yticlpjpbjgfgmaa
