/- A journal in memory: isOne, usable, noted, otherFile, Last, Synced, Broken. -/
import Derived.Test.YtcbgnodmamcmkaaStateOn
namespace Go.Proofs.Ytcbgnodmamcmkaa
open Go.RowKit

/-- A journal's block. -/
def JBlk (w : World) (g : Nat) (D : Option Addr) (l s f : Int) (b : Bool) : Prop := w.heap[g]? = some (.cells #[.pointer D, .int .i64 l, .int .i64 s, .int .i64 f, .bool b] 69 (0, 0))
section
variable {w w' : World} {g : Nat} {D : Option Addr} {l s f : Int} {b : Bool}
theorem JBlk.lt (h : JBlk w g D l s f b) : g < w.heap.size := (Array.getElem?_eq_some_iff.1 h).1
theorem JBlk.below (h : JBlk w g D l s f b) (hb : Below w.heap.size w w') : JBlk w' g D l s f b := by unfold JBlk; rw [hb.block g h.lt]; exact h
theorem JBlk.kp {S : Nat → Prop} (h : JBlk w g D l s f b) (hk : Kp S w w') (hn : ¬ S g) : JBlk w' g D l s f b := by unfold JBlk; rw [hk.block g h.lt hn]; exact h
theorem JBlk.c0 (h : JBlk w g D l s f b) : w.cell? ⟨g, 0, none⟩ = some (.pointer D) := by unfold JBlk at h; simp [World.cell?, h]
theorem JBlk.c1 (h : JBlk w g D l s f b) : w.cell? ⟨g, 1, none⟩ = some (.int .i64 l) := by unfold JBlk at h; simp [World.cell?, h]
theorem JBlk.c2 (h : JBlk w g D l s f b) : w.cell? ⟨g, 2, none⟩ = some (.int .i64 s) := by unfold JBlk at h; simp [World.cell?, h]
theorem JBlk.c3 (h : JBlk w g D l s f b) : w.cell? ⟨g, 3, none⟩ = some (.int .i64 f) := by unfold JBlk at h; simp [World.cell?, h]
theorem JBlk.c4 (h : JBlk w g D l s f b) : w.cell? ⟨g, 4, none⟩ = some (.bool b) := by unfold JBlk at h; simp [World.cell?, h]
theorem JBlk.free (h : JBlk w g D l s f b) (j : Nat) : w.frozen? ⟨g, j, none⟩ = false := by unfold JBlk at h; simp [World.frozen?, h]
theorem JBlk.set1 (h : JBlk w g D l s f b) (x : Int) : JBlk (w.setCell ⟨g, 1, none⟩ (.int .i64 x)) g D x s f b := by
  unfold JBlk at *
  rw [setCell_eq_setRow w g 1 _ 69 (0, 0) _ h, setRow_heap w g _ _ 69 _ h]
  rfl
theorem JBlk.set2 (h : JBlk w g D l s f b) (x : Int) : JBlk (w.setCell ⟨g, 2, none⟩ (.int .i64 x)) g D l x f b := by
  unfold JBlk at *
  rw [setCell_eq_setRow w g 2 _ 69 (0, 0) _ h, setRow_heap w g _ _ 69 _ h]
  rfl
theorem JBlk.set3 (h : JBlk w g D l s f b) (x : Int) : JBlk (w.setCell ⟨g, 3, none⟩ (.int .i64 x)) g D l s x b := by
  unfold JBlk at *
  rw [setCell_eq_setRow w g 3 _ 69 (0, 0) _ h, setRow_heap w g _ _ 69 _ h]
  rfl
theorem JBlk.set4 (h : JBlk w g D l s f b) (x : Bool) : JBlk (w.setCell ⟨g, 4, none⟩ (.bool x)) g D l s f x := by
  unfold JBlk at *
  rw [setCell_eq_setRow w g 4 _ 69 (0, 0) _ h, setRow_heap w g _ _ 69 _ h]
  rfl
theorem kp_one (w : World) (g j : Nat) (v : Value) : Kp (fun k => k = g) w (w.setCell ⟨g, j, none⟩ v) := Kp.setCell (S := fun k => k = g) (p := ⟨g, j, none⟩) (Kp.refl _ _) rfl v
end

theorem jone_nil (w : World) : Calls Try.prog 55 #[.pointer none] w fun e w' => e = .returned (.bool false) ∧ w' = w := by
  go_enter Try.func55, Try.ntmps55
  go_wp2
  go_ret
  exact ⟨rfl, rfl⟩
theorem jone_blk (g : Nat) (D : Option Addr) (l s f : Int) (b : Bool) (w : World) (h : JBlk w g D l s f b) : Calls Try.prog 55 #[.pointer (some ⟨g, 0, none⟩)] w fun e w' => e = .returned (.bool D.isSome) ∧ w' = w := by
  have c0 := h.c0
  cases D with
  | none =>
    go_enter Try.func55, Try.ntmps55
    go_wp2
    go_ret
    exact ⟨rfl, rfl⟩
  | some a =>
    go_enter Try.func55, Try.ntmps55
    go_wp2
    go_ret
    exact ⟨rfl, rfl⟩

/-- A journal that is none. -/
def JNone (w : World) (v : Value) : Prop := v = .pointer none ∨ ∃ g l s f b, v = .pointer (some ⟨g, 0, none⟩) ∧ JBlk w g none l s f b
theorem JNone.below {w w' : World} {v : Value} (h : JNone w v) (hb : Below w.heap.size w w') : JNone w' v := by
  rcases h with h | ⟨g, l, s, f, b, h1, h2⟩
  · exact .inl h
  · exact .inr ⟨g, l, s, f, b, h1, h2.below hb⟩
theorem jone_none (v : Value) (w : World) (h : JNone w v) : Calls Try.prog 55 #[v] w fun e w' => e = .returned (.bool false) ∧ w' = w := by
  rcases h with rfl | ⟨g, l, s, f, b, rfl, h2⟩
  · exact jone_nil w
  · exact jone_blk g none l s f b w h2
theorem usable_none (v : Value) (w : World) (h : JNone w v) : Calls Try.prog 46 #[v] w fun e w' => e = .returned (.int .i64 1) ∧ w' = w := by
  have hc := jone_none v w h
  go_enter Try.func46, Try.ntmps46
  go_wp2_with fail
  refine hc.mono ?_
  rintro e w1 ⟨rfl, rfl⟩
  go_wp2
  go_ret
  exact ⟨rfl, rfl⟩
theorem usable_blk (g : Nat) (a : Addr) (l s f : Int) (b : Bool) (w : World) (h : JBlk w g (some a) l s f b) : Calls Try.prog 46 #[.pointer (some ⟨g, 0, none⟩)] w fun e w' => e = .returned (.int .i64 (if b then 4 else 0)) ∧ w' = w := by
  have hc : Calls Try.prog 55 #[.pointer (some ⟨g, 0, none⟩)] w fun e w' => e = .returned (.bool true) ∧ w' = w := jone_blk g (some a) l s f b w h
  have c4 := h.c4
  cases b with
  | true =>
    go_enter Try.func46, Try.ntmps46
    go_wp2_with fail
    refine hc.mono ?_
    rintro e w1 ⟨rfl, rfl⟩
    go_wp2
    go_ret
    exact ⟨rfl, rfl⟩
  | false =>
    go_enter Try.func46, Try.ntmps46
    go_wp2_with fail
    refine hc.mono ?_
    rintro e w1 ⟨rfl, rfl⟩
    go_wp2
    go_ret
    exact ⟨rfl, rfl⟩
theorem noted_ok (v : Value) (w : World) : Calls Try.prog 47 #[v, .int .i64 0] w fun e w' => e = .returned (.int .i64 0) ∧ w' = w := by
  go_enter Try.func47, Try.ntmps47
  go_wp2
  go_ret
  exact ⟨rfl, rfl⟩
theorem noted_err (g : Nat) (D : Option Addr) (l s f x : Int) (b : Bool) (w : World) (h : JBlk w g D l s f b) (hx : x ≠ 0) : Calls Try.prog 47 #[.pointer (some ⟨g, 0, none⟩), .int .i64 x] w fun e w' => e = .returned (.int .i64 x) ∧ w' = w.setCell ⟨g, 4, none⟩ (.bool true) := by
  have c4 := h.c4
  have f4 := h.free 4
  have e1 : (x != 0) = true := by simpa using hx
  replace h := hid h
  go_enter Try.func47, Try.ntmps47
  go_wp2
  go_ret
  exact ⟨rfl, rfl⟩
theorem other_any (f : Int) (w : World) : Calls Try.prog 48 #[.int .i64 f] w fun e w' => e = .returned (.int .i64 (if f = 1 then 2 else 1)) ∧ w' = w := by
  by_cases h : f = 1
  · subst h
    go_enter Try.func48, Try.ntmps48
    go_wp2
    go_ret
    exact ⟨rfl, rfl⟩
  · rw [if_neg h]
    have e1 : (f == 1) = false := by simpa using h
    go_enter Try.func48, Try.ntmps48
    go_wp2
    go_ret
    exact ⟨rfl, rfl⟩

theorem last_none (v : Value) (w : World) (h : JNone w v) : Calls Try.prog 16 #[v] w fun e w' => e = .returned (.int .i64 0) ∧ w' = w := by
  have hc := jone_none v w h
  go_enter Try.func16, Try.ntmps16
  go_wp2_with fail
  refine hc.mono ?_
  rintro e w1 ⟨rfl, rfl⟩
  go_wp2
  go_ret
  exact ⟨rfl, rfl⟩
theorem last_blk (g : Nat) (a : Addr) (l s f : Int) (b : Bool) (w : World) (h : JBlk w g (some a) l s f b) : Calls Try.prog 16 #[.pointer (some ⟨g, 0, none⟩)] w fun e w' => e = .returned (.int .i64 l) ∧ w' = w := by
  have hc : Calls Try.prog 55 #[.pointer (some ⟨g, 0, none⟩)] w fun e w' => e = .returned (.bool true) ∧ w' = w := jone_blk g (some a) l s f b w h
  have cc := h.c1
  go_enter Try.func16, Try.ntmps16
  go_wp2_with fail
  refine hc.mono ?_
  rintro e w1 ⟨rfl, rfl⟩
  go_wp2
  go_ret
  exact ⟨rfl, rfl⟩

theorem synced_none (v : Value) (w : World) (h : JNone w v) : Calls Try.prog 32 #[v] w fun e w' => e = .returned (.int .i64 0) ∧ w' = w := by
  have hc := jone_none v w h
  go_enter Try.func32, Try.ntmps32
  go_wp2_with fail
  refine hc.mono ?_
  rintro e w1 ⟨rfl, rfl⟩
  go_wp2
  go_ret
  exact ⟨rfl, rfl⟩
theorem synced_blk (g : Nat) (a : Addr) (l s f : Int) (b : Bool) (w : World) (h : JBlk w g (some a) l s f b) : Calls Try.prog 32 #[.pointer (some ⟨g, 0, none⟩)] w fun e w' => e = .returned (.int .i64 s) ∧ w' = w := by
  have hc : Calls Try.prog 55 #[.pointer (some ⟨g, 0, none⟩)] w fun e w' => e = .returned (.bool true) ∧ w' = w := jone_blk g (some a) l s f b w h
  have cc := h.c2
  go_enter Try.func32, Try.ntmps32
  go_wp2_with fail
  refine hc.mono ?_
  rintro e w1 ⟨rfl, rfl⟩
  go_wp2
  go_ret
  exact ⟨rfl, rfl⟩

theorem broken_none (v : Value) (w : World) (h : JNone w v) : Calls Try.prog 21 #[v] w fun e w' => e = .returned (.bool false) ∧ w' = w := by
  have hc := jone_none v w h
  go_enter Try.func21, Try.ntmps21
  go_wp2_with fail
  refine hc.mono ?_
  rintro e w1 ⟨rfl, rfl⟩
  go_wp2
  go_ret
  exact ⟨rfl, rfl⟩
theorem broken_blk (g : Nat) (a : Addr) (l s f : Int) (b : Bool) (w : World) (h : JBlk w g (some a) l s f b) : Calls Try.prog 21 #[.pointer (some ⟨g, 0, none⟩)] w fun e w' => e = .returned (.bool b) ∧ w' = w := by
  have hc : Calls Try.prog 55 #[.pointer (some ⟨g, 0, none⟩)] w fun e w' => e = .returned (.bool true) ∧ w' = w := jone_blk g (some a) l s f b w h
  have cc := h.c4
  go_enter Try.func21, Try.ntmps21
  go_wp2_with fail
  refine hc.mono ?_
  rintro e w1 ⟨rfl, rfl⟩
  go_wp2
  go_ret
  exact ⟨rfl, rfl⟩
end Go.Proofs.Ytcbgnodmamcmkaa
