/- The chapter's first example comes out as written. -/
import Derived.Test.YthjggjjocfbjcaaSame
namespace Go.Proofs.Ythjggjjocfbjcaa
open Go.RowKit

theorem at_mark (w : World) (l : List UInt8) (cs : Array Value) (m : Nat × Nat) (h : cs = (l.map B).toArray) : At (w.alloc (.cells cs 5 m)) (some ⟨w.heap.size, 0, none⟩) l := by
  subst h
  refine fun _ => ⟨w.heap.size, 0, rfl, fun i hi => ?_⟩
  have hh : (w.alloc (.cells (l.map B).toArray 5 m)).heap[w.heap.size]? = some (.cells (l.map B).toArray 5 m) := by
    show (w.heap.push _)[w.heap.size]? = _
    simp
  rw [Nat.zero_add]
  unfold World.cell?
  simp only [hh]
  simp [hi, B]

theorem const_run (w : World) (C : Array Value) (n c : Nat) : (convert 24 24 (.slice (some ⟨w.heap.size, 0, none⟩) n c)).run Try.prog (w.alloc (.cells C 5)) = .ok (.slice (some ⟨w.heap.size, 0, none⟩) n c) (w.alloc (.cells C 5 (C.size, C.size + 1))) :=
  Lib.run_convert_bytes_const (P := Try.prog) w 24 5 C n c Try.underlying24 Try.underlying5

/-- Look, where the plain answer is given. -/
theorem look_of (l : List PC) (cl r ak v e : Int) (l' : List PC) (reply : List UInt8) (n' rn : Nat) (hp : lookP l cl r ak = (l', v, reply, e)) (hn' : l'.length = n') (hrn : reply.length = rn) (a : Option Addr) (n c lo : Nat) (L : List CV) (w : World) (hL : L.map CV.flat = l) (hln : L.length = n) (h : LAt w lo a L) (hn : n ≤ 9000000000000000000) :
    Calls Try.prog 8 #[.slice a n c, .int .i64 cl, .int .i64 r, .int .i64 ak] w fun en w' => ∃ a' c' L' ra rc, en = .returned (.tuple #[.slice a' n' c', .int .u8 v, .slice ra rn rc, .int .i64 e]) ∧ L'.map CV.flat = l' ∧ L'.length = n' ∧ LAt w' w.heap.size a' L' ∧ At w' ra reply ∧ Below w.heap.size w w' := by
  refine (look_any a n c lo L cl r ak w hln h hn).mono ?_
  rintro en w' ⟨a', c', L', ra, rc, rfl, h1, h2, h3, h4⟩
  rw [hL, hp] at h1 h3 ⊢
  refine ⟨a', c', L', ra, rc, ?_, h1, ?_, h2, h3.at_, h4⟩
  · rw [← hn', ← hrn]
  · have := congrArg List.length h1; simp at this; rw [this]; exact hn'

theorem done_of (l : List PC) (cl r e : Int) (l' : List PC) (reply : List UInt8) (n' : Nat) (hp : doneP l cl r reply = (l', e)) (hn' : l'.length = n') (a : Option Addr) (n c lo : Nat) (L : List CV) (ra : Option Addr) (rl rc : Nat) (w : World) (hL : L.map CV.flat = l) (hln : L.length = n) (h : LAt w lo a L) (hrl : reply.length = rl) (hrs : rl ≤ 140737488355328) (hat : At w ra reply) (hn : n ≤ 9000000000000000000) :
    Calls Try.prog 9 #[.slice a n c, .int .i64 cl, .int .i64 r, .slice ra rl rc] w fun en w' => ∃ a' c' L', en = .returned (.tuple #[.slice a' n' c', .int .i64 e]) ∧ L'.map CV.flat = l' ∧ L'.length = n' ∧ LAt w' w.heap.size a' L' ∧ Below w.heap.size w w' := by
  refine (done_any a n c lo L cl r ra rl rc reply w hln h hrl hrs hat hn).mono ?_
  rintro en w' ⟨a', c', L', rfl, h1, h2, h4⟩
  rw [hL, hp] at h1 ⊢
  refine ⟨a', c', L', ?_, h1, ?_, h2, h4⟩
  · rw [← hn']
  · have := congrArg List.length h1; simp at this; rw [this]; exact hn'

theorem lat_lit (w : World) (x y : Int) : LAt (w.alloc (.cells #[.int .i64 x, .int .i64 y, .slice none 0 0] 34)) 0 (some ⟨w.heap.size, 0, none⟩) [⟨x, y, none, 0, []⟩] :=
  ⟨cat_lit w 34 _ _ rfl, fun _ _ => Nat.zero_le _, fun c hc => by simp at hc; subst hc; exact KAt.nil _ _⟩

set_option maxRecDepth 100000 in
set_option maxHeartbeats 2000000 in
theorem awake_any (w : World) : Calls Try.prog 15 #[] w fun e w' => e = .returned (.bool true) ∧ Below w.heap.size w w' := by
  have kc := const_run
  go_enter Try.func15, Try.ntmps15
  go_wp2_with fail
  refine (look_of [] 5 1 0 1 0 [(5, 0, [])] [] 1 0 (by rfl) rfl rfl none 0 0 0 [] _ rfl rfl (LAt.nil _ _) (by omega)).mono ?_
  rintro e w1 ⟨a1, c1, L1, ra1, rc1, rfl, f1, l1, h1, -, b1⟩
  have bl1 := below_lit w1 (.cells #[.int .u8 97] 5 (1, 2))
  have B1 := bnext b1 bl1
  have hd := done_of [(5, 0, [])] 5 1 0 [(5, 0, [(1, [97])])] [97] 1 (by rfl) rfl a1 1 c1 w.heap.size L1 (some ⟨w1.heap.size, 0, none⟩) 1 1 (w1.alloc (.cells #[.int .u8 97] 5 (1, 2))) f1 l1 (h1.below bl1) rfl (by omega) (at_mark w1 [97] _ _ rfl) (by omega)
  replace f1 := hid f1
  replace l1 := hid l1
  go_wp2_with fail
  refine hd.mono ?_
  rintro e w2 ⟨a2, c2, L2, rfl, f2, l2, h2, b2⟩
  have B2 := bnext B1 b2
  have hd := look_of [(5, 0, [(1, [97])])] 5 1 0 2 0 [(5, 0, [(1, [97])])] [97] 1 1 (by rfl) rfl rfl a2 1 c2 _ L2 w2 f2 l2 h2 (by omega)
  go_wp2_with fail
  refine hd.mono ?_
  rintro e w3 ⟨a3, c3, L3, ra3, rc3, rfl, -, -, -, t3, b3⟩
  have B3 := bnext B2 b3
  have hd := look_of [(5, 0, [(1, [97])])] 5 2 1 1 0 [(5, 1, [])] [] 1 0 (by rfl) rfl rfl a2 1 c2 _ L2 w3 f2 l2 (h2.below b3) (by omega)
  go_wp2_with fail
  refine hd.mono ?_
  rintro e w4 ⟨a4, c4, L4, ra4, rc4, rfl, f4, l4, h4, -, b4⟩
  have B4 := bnext B3 b4
  have hd := look_of [(5, 1, [])] 5 1 0 3 0 [(5, 1, [])] [] 1 0 (by rfl) rfl rfl a4 1 c4 _ L4 w4 f4 l4 h4 (by omega)
  go_wp2_with fail
  refine hd.mono ?_
  rintro e w5 ⟨a5, c5, L5, ra5, rc5, rfl, -, -, -, -, b5⟩
  have B5 := bnext B4 b5
  have t5 := t3.below (bnext b4 b5)
  have cv := conv_run w5 ra3 [97] 1 rc3 rfl t5
  have bl6 := below_lit w5 (.cells #[.int .i64 5, .int .i64 1, .slice none 0 0] 34)
  have hs := samec_any a4 (some ⟨w5.heap.size, 0, none⟩) 1 c4 1 _ 0 L4 [⟨5, 1, none, 0, []⟩] _ l4 rfl (by rw [f4]; rfl) ((h4.below b5).below bl6) (lat_lit w5 5 1) (by omega) (fun x hx => by
    obtain ⟨y, hy⟩ : ∃ y, L4 = [y] := List.length_eq_one_iff.1 l4
    rw [hy] at f4 hx
    simp at hx
    subst hx
    simp [CV.flat] at f4
    rw [f4.2.2]; simp)
  replace f2 := hid f2
  replace f4 := hid f4
  replace l2 := hid l2
  replace l4 := hid l4
  replace h1 := hid h1
  replace h2 := hid h2
  replace h4 := hid h4
  replace t3 := hid t3
  replace t5 := hid t5
  go_wp2_with fail
  refine hs.mono ?_
  rintro e w6 ⟨rfl, b6⟩
  go_wp2
  go_ret
  exact ⟨rfl, bnext B5 (bnext bl6 b6)⟩

end Go.Proofs.Ythjggjjocfbjcaa
