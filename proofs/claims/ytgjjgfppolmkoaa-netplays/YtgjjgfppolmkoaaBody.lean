/- What body makes is told by its number; what NetSent's closure answers. -/
import Derived.Test.YtgjjgfppolmkoaaMade
import Derived.Test.YtgjjgfppolmkoaaPick
import Derived.Test.YtgjjgfppolmkoaaApartB
import Derived.Deep.RegionHeld
namespace Go.Proofs.Ytgjjgfppolmkoaa
open Go.RowKit Go.Maps

def bodyL (i : Nat) : List UInt8 := [0, UInt8.ofNat i] ++ madeL (i : Int) (i % 20)
theorem bodyL_len (i : Nat) : (bodyL i).length = 2 + i % 20 := by simp [bodyL, madeL_len]; omega

theorem own_lit (w : World) (base : Nat) (l : List UInt8) (cs : Array Value) (h : cs = (l.map B).toArray) (hb : base ≤ w.heap.size) (n : Nat) (hn : n = l.length) (hm : n ≤ 1000) : Own (w.alloc (.cells cs 5)) base (.slice (some ⟨w.heap.size, 0, none⟩) n n) l := by
  subst h hn
  exact ⟨by simp, .inr ⟨w.heap.size, l.length, _, rfl, hb, heap_alloc_new w _, Nat.le_refl _, by unfold maxLen; omega, by simp, List.take_of_length_le (by simp)⟩⟩

set_option maxRecDepth 100000 in
set_option maxHeartbeats 400000 in
theorem body_any (i : Nat) (w : World) (hi : i ≤ 200) :
    Calls Try.prog 26 #[.int .i64 (i : Int)] w fun e w' => ∃ a c, e = .returned (.slice a (bodyL i).length c) ∧ Own w' w.heap.size (.slice a (bodyL i).length c) (bodyL i) ∧ Below w.heap.size w w' := by
  have e1 : (i : Int) / 256 = 0 := by omega
  have e2 : (i : Int) % 20 = ((i % 20 : Nat) : Int) := by omega
  have e3 : ((UInt8.ofNat i).toNat : Int) = (i : Int) := by rw [UInt8.toNat_ofNat']; omega
  have hlen := bodyL_len i
  replace e1 := hid e1
  replace e2 := hid e2
  replace e3 := hid e3
  replace hlen := hid hlen
  go_enter Try.func26, Try.ntmps26
  go_wp2_with fail
  rw [e1.out, e2.out]
  refine (made_fun (i : Int) (i % 20) _ (by omega)).mono ?_
  rintro e w1 ⟨g, rfl, hg, hrow, hb1⟩
  have ol : Own (w.alloc (.cells #[.int .u8 0, .int .u8 (i : Int)] 5)) w.heap.size (.slice (some ⟨w.heap.size, 0, none⟩) 2 2) [0, UInt8.ofNat i] := own_lit w w.heap.size [0, UInt8.ofNat i] _ (by simp [B]; omega) (Nat.le_refl _) 2 rfl (by omega)
  have ol1 := hid (ol.below hb1)
  have hz := (bnext (below_lit w (.cells #[.int .u8 0, .int .u8 (i : Int)] 5)) hb1)
  have hat := hid hrow.at
  replace hrow := hid hrow
  have hb63 : [0, UInt8.ofNat i].length + i % 20 ≤ 140737489000000 := by simp; omega
  replace hb63 := hid hb63
  go_wp2_with (at_builtin; refine wpList_app _ rfl (.tmp 8) (.tmp 12) rfl rfl w.heap.size _ [0, UInt8.ofNat i] (madeL (i : Int) (i % 20)) rfl ol1.out (some ⟨g, 0, none⟩) (i % 20) (i % 20) rfl (madeL_len _ _) hat.out hb63.out hz.size ?_; intro v2 w2 ho2 hb2)
  obtain ⟨a2, c2, hv2, _, _⟩ := ho2.form
  subst hv2
  go_ret
  exact ⟨a2, c2, rfl, ho2, hz.trans hb2⟩

/-- A block of one cell. -/
def One (w : World) (g : Nat) (t : TypeId) (v : Value) : Prop := w.heap[g]? = some (.cells #[v] t (0, 0))
theorem One.cell {w : World} {g : Nat} {t : TypeId} {v : Value} (h : One w g t v) : w.cell? ⟨g, 0, none⟩ = some v := by unfold One at h; simp [World.cell?, h]
theorem One.free {w : World} {g : Nat} {t : TypeId} {v : Value} (h : One w g t v) : w.frozen? ⟨g, 0, none⟩ = false := by unfold One at h; simp [World.frozen?, h]
theorem One.lt {w : World} {g : Nat} {t : TypeId} {v : Value} (h : One w g t v) : g < w.heap.size := (Array.getElem?_eq_some_iff.1 h).1
theorem One.kp {S : Nat → Prop} {w w' : World} {g : Nat} {t : TypeId} {v : Value} (h : One w g t v) (hk : Kp S w w') (hn : ¬ S g) : One w' g t v := by unfold One; rw [hk.block g h.lt hn]; exact h
theorem One.set {w : World} {g : Nat} {t : TypeId} {v : Value} (h : One w g t v) (u : Value) : One (w.setCell ⟨g, 0, none⟩ u) g t u := by
  unfold One at *; rw [setCell_eq_setRow w g 0 _ t (0, 0) _ h, setRow_heap w g _ _ t _ h]; simp

def I (x : Int) : Value := .int .i64 x

theorem or_zero (k : Nat) (h : k ≤ 200) : bits BinOp.or IntKind.i64 0 (k : Int) = (k : Int) := by
  have : ∀ k : Fin 201, bits BinOp.or IntKind.i64 0 ((k : Nat) : Int) = ((k : Nat) : Int) := by decide +kernel
  exact this ⟨k, by omega⟩

theorem stay {w w' : World} {ad : Addr} {v : Value} (hb : Below w.heap.size w w') (h : w.cell? ad = some v) : w'.cell? ad = some v := kp_cell (T := fun _ => False) (Kp.of_below hb) h (fun h => h)

set_option maxRecDepth 100000 in
set_option maxHeartbeats 400000 in
/-- The closure, at a packet that is the k-th that was sent. -/
theorem deliver_fn (num : Int) (nn k sent gs go ga : Nat) (a : Option Addr) (len c : Nat) (w : World) (hk : k < sent) (hs : sent ≤ 200) (hnum : num = (nn : Int)) (hn4 : nn < 400) (hat : At w a (bodyL k)) (hl : (bodyL k).length = len)
    (cs : w.cell? ⟨gs, 0, none⟩ = some (.int .i64 (sent : Int))) (co : w.cell? ⟨go, 0, none⟩ = some (.slice (some ⟨ga, 0, none⟩) 400 400)) (cw : w.cell? ⟨ga, nn, none⟩ = some (.int .i64 ((k : Int) + 1))) :
    Calls Try.prog 24 #[.agg #[.int .i64 num, .int .i64 (k : Int), .int .i64 ((k : Int) + 1), .slice a len c], .int .i64 0, .pointer (some ⟨gs, 0, none⟩), .pointer (some ⟨go, 0, none⟩)] w fun e w' => e = .returned (.bool true) ∧ Below w.heap.size w w' := by
  subst hnum
  have b1 := below_lit w (.cells #[.int .i64 (nn : Int), .int .i64 (k : Int), .int .i64 ((k : Int) + 1), .slice a len c] 31)
  have P1 := PBlk.new w (.int .i64 (nn : Int)) (.int .i64 (k : Int)) (.int .i64 ((k : Int) + 1)) (.slice a len c)
  have hlen : 2 ≤ len := by rw [← hl, bodyL_len]; omega
  obtain ⟨gb, ob, rfl, hcell⟩ := hat (by intro e; rw [e] at hl; simp at hl; omega)
  have y0 := hcell 0 (by omega)
  have y1 := hcell 1 (by omega)
  have e3 : ((UInt8.ofNat k).toNat : Int) = (k : Int) := by rw [UInt8.toNat_ofNat']; omega
  have z0 : (bodyL k)[0]'(by omega) = 0 := by simp [bodyL]
  have z1 : (bodyL k)[1]'(by omega) = UInt8.ofNat k := by simp [bodyL]
  rw [z0, Nat.add_zero] at y0
  rw [z1, e3] at y1
  have x0 : (w.alloc (.cells #[.int .i64 (nn : Int), .int .i64 (k : Int), .int .i64 ((k : Int) + 1), .slice (some ⟨gb, ob, none⟩) len c] 31)).cell? ⟨gb, ob, none⟩ = some (.int .u8 0) := by
    rw [b1.cell (p := ⟨gb, ob, none⟩) (World.block_lt_of_cell? w _ y0)]; exact y0
  have x1 : (w.alloc (.cells #[.int .i64 (nn : Int), .int .i64 (k : Int), .int .i64 ((k : Int) + 1), .slice (some ⟨gb, ob, none⟩) len c] 31)).cell? ⟨gb, ob + 1, none⟩ = some (.int .u8 (k : Int)) := by
    rw [b1.cell (p := ⟨gb, ob + 1, none⟩) (World.block_lt_of_cell? w _ y1)]; exact y1
  have d2 : decide ((len : Int) < 2) = false := decide_eq_false (by omega)
  have cs1 := b1.cell (p := ⟨gs, 0, none⟩) (World.block_lt_of_cell? w _ cs)
  have co1 := b1.cell (p := ⟨go, 0, none⟩) (World.block_lt_of_cell? w _ co)
  have cw1 := b1.cell (p := ⟨ga, nn, none⟩) (World.block_lt_of_cell? w _ cw)
  rw [cs] at cs1
  rw [co] at co1
  rw [cw] at cw1
  have hat1 := hat.below b1
  clear hat y0 y1 cs co cw hcell z0 z1 e3
  have hL := hid hl
  clear hl
  have q0 := P1.cell0
  have q1 := P1.cell1
  have q2 := P1.cell2
  have q3 := P1.cell3
  go_enter Try.func24, Try.ntmps24
  go_wp2_with fail
  generalize w.alloc (.cells #[.int .i64 (nn : Int), .int .i64 (k : Int), .int .i64 ((k : Int) + 1), .slice (some ⟨gb, ob, none⟩) len c] 31) = W at *
  replace P1 := hid P1
  go_quiet (fail)
  have bq := below_drewN (Below.refl W.heap.size W) nq
  have t0 := stay bq q0
  have t1 := stay bq q1
  have t2 := stay bq q2
  have t3 := stay bq q3
  have cs2 := stay bq cs1
  have co2 := stay bq co1
  have cw2 := stay bq cw1
  have hat2 := hat1.below bq
  rw [or_zero k (by omega)]
  have B2 := bnext b1 bq
  generalize W.drewN nq = W2 at t0 t1 t2 t3 cs2 co2 cw2 hat2 B2 ⊢
  clear q0 q1 q2 q3 cs1 co1 cw1 hat1 bq b1 x0 x1 d2 P1
  have bd := drew_below W2
  have B3 := bnext B2 bd
  have hat3 := hat2.below bd
  have e0 := stay bd t0
  have e1 := stay bd t1
  have e2 := stay bd t2
  have e3 := stay bd t3
  have es := stay bd cs2
  have eo := stay bd co2
  have ew := stay bd cw2
  have hl3 := hid hL.out
  have hwr : IntKind.i64.wrap ((k : Int) + 1) = (k : Int) + 1 := by rw [IntKind.wrap_i64]; omega
  go_wp2_with fail
  go_region_held (fun w' : World => w'.cell? ⟨w.heap.size, 0, none⟩ = some (.int .i64 (nn : Int)) ∧ w'.cell? ⟨w.heap.size, 1, none⟩ = some (.int .i64 (k : Int)) ∧ w'.cell? ⟨w.heap.size, 2, none⟩ = some (.int .i64 ((k : Int) + 1)) ∧ w'.cell? ⟨w.heap.size, 3, none⟩ = some (.slice (some ⟨gb, ob, none⟩) len c) ∧ w'.cell? ⟨gs, 0, none⟩ = some (.int .i64 (sent : Int)) ∧ w'.cell? ⟨go, 0, none⟩ = some (.slice (some ⟨ga, 0, none⟩) 400 400) ∧ w'.cell? ⟨ga, nn, none⟩ = some (.int .i64 ((k : Int) + 1)))
    (first | exact ⟨stay hb4 e0, stay hb4 e1, stay hb4 e2, stay hb4 e3, stay hb4 es, stay hb4 eo, stay hb4 ew⟩ | exact ⟨e0, e1, e2, e3, es, eo, ew⟩)
    (first
      | (go_at_call 26; refine (body_any k _ (by omega)).mono ?_; rintro e w4 ⟨a4, c4, rfl, ho4, hb4⟩)
      | (go_at_call 25; refine (same_any (some ⟨gb, ob, none⟩) a4 len (bodyL k).length c c4 (bodyL k) (bodyL k) _ hl3.out rfl (hat3.below hb4) (own_at ho4) rfl).mono ?_; rintro e w5 ⟨rfl, rfl⟩))
  all_goals
    go_wp2
    go_ret
    exact ⟨rfl, bnext B3 hb4⟩
end Go.Proofs.Ytgjjgfppolmkoaa
