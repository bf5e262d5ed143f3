/- Texts as lists of bytes; a block of one cell; runs in memory. -/
import Derived.Test.YtomdghodbkhkaaaGreatDoorPl
import Derived.Test.YtomdghodbkhkaaaGreatDoorCp2
import Derived.Laws.RangeAny
namespace Go.Proofs.YtomdghodbkhkaaaGreatDoor
open Go.RowKit
set_option linter.unusedVariables false
set_option linter.unusedSimpArgs false

def Str (l : List UInt8) : Value := .string ⟨l.toArray⟩
theorem str_add (x y : List UInt8) : (⟨x.toArray⟩ : ByteArray) ++ ⟨y.toArray⟩ = ⟨(x ++ y).toArray⟩ := by
  apply ByteArray.ext
  simp
theorem str_cut (l : List UInt8) (a b : Nat) : (⟨l.toArray⟩ : ByteArray).extract a b = ⟨((l.take b).drop a).toArray⟩ := by
  apply ByteArray.ext
  rw [ByteArray.data_extract]
  simp [List.extract_eq_take_drop, List.drop_take]
theorem str_size (l : List UInt8) : ∃ p : ByteArray, Str l = .string p ∧ p.toList = l ∧ p.size = l.length ∧ p = ⟨l.toArray⟩ := ⟨⟨l.toArray⟩, rfl, by rw [Lib.toList_data], rfl, rfl⟩
theorem str_one (l : List UInt8) : ∀ u ∈ [Str l], u.oneCell' = true := by
  intro u hu; simp at hu; subst hu; rfl
theorem iter_below (w : World) (s : ByteArray) (p : Nat) : Below w.heap.size w (w.iter s p) := below_lit w _

/-- A row of texts. -/
def SOwn (w : World) (base : Nat) (v : Value) (T : List (List UInt8)) : Prop := w.ownsRow base 9 1 v T.length (T.map Str)

/-- A block of one cell. -/
def TBlk (t : TypeId) (w : World) (p : Nat) (v : Value) : Prop := w.heap[p]? = some (.cells #[v] t (0, 0))
theorem TBlk.cell {t : TypeId} {w : World} {p : Nat} {v : Value} (h : TBlk t w p v) : w.cell? ⟨p, 0, none⟩ = some v := by
  unfold TBlk at h; simp [World.cell?, h]
theorem TBlk.free {t : TypeId} {w : World} {p : Nat} {v : Value} (h : TBlk t w p v) : w.frozen? ⟨p, 0, none⟩ = false := by
  unfold TBlk at h; simp [World.frozen?, h]
theorem TBlk.lt {t : TypeId} {w : World} {p : Nat} {v : Value} (h : TBlk t w p v) : p < w.heap.size := (Array.getElem?_eq_some_iff.1 h).1
theorem TBlk.set {t : TypeId} {w : World} {p : Nat} {v : Value} (h : TBlk t w p v) (u : Value) : TBlk t (w.setCell ⟨p, 0, none⟩ u) p u := by
  unfold TBlk at *
  rw [setCell_eq_setRow w p 0 _ t (0, 0) u h, setRow_heap w p _ _ t _ h]
  rfl
theorem TBlk.kp {t : TypeId} {S : Nat → Prop} {w w' : World} {p : Nat} {v : Value} (h : TBlk t w p v) (hk : Kp S w w') (hn : ¬ S p) : TBlk t w' p v := by
  unfold TBlk; rw [hk.block p h.lt hn]; exact h
theorem TBlk.below {t : TypeId} {w w' : World} {p : Nat} {v : Value} (h : TBlk t w p v) (hb : Below w.heap.size w w') : TBlk t w' p v := h.kp (S := fun _ => False) (Kp.of_below hb) (fun h => h)

/-- A run's cells. -/
def rc (r : Run) : List Value := [.int .i64 (r.1 : Int), .int .i64 (r.2.1 : Int), .int .i64 (r.2.2 : Int)]
theorem rc_len (r : Run) : (rc r).length = 3 := rfl
theorem rc_all (r : Run) : (rc r).toArray.all (·.oneCell') = true := by simp [rc, Value.oneCell']
theorem rc_one (r : Run) : ∀ u ∈ rc r, u.oneCell' = true := by
  intro u hu; simp [rc] at hu; rcases hu with rfl | rfl | rfl <;> rfl
def runAt (L : List Run) (i : Nat) : Run := L.getD i (0, 0, 0)
theorem runAt_eq {L : List Run} {i : Nat} (h : i < L.length) : L[i] = runAt L i := by simp [runAt, h]
def NRAt (w : World) (a : Option Addr) (L : List Run) : Prop := CAt w a (L.flatMap rc)
def NROwn (w : World) (base : Nat) (v : Value) (L : List Run) : Prop := w.ownsRow base 64 3 v L.length (L.flatMap rc)
theorem NRAt.below {w w' : World} {a : Option Addr} {C : List Run} (h : NRAt w a C) (hb : Below w.heap.size w w') : NRAt w' a C := CAt.below h hb
theorem NRAt.place {w : World} {a : Option Addr} {C : List Run} (h : NRAt w a C) (h0 : 0 < C.length) : ∃ b o, a = some ⟨b, o, none⟩ := flat_place rc 3 rc_len (by omega) h h0
theorem NRAt.one {w : World} {b o : Nat} {C : List Run} (h : NRAt w (some ⟨b, o, none⟩) C) {i : Nat} (hi : i < C.length) :
    w.cell? ⟨b, o + i * 3, none⟩ = some (.int .i64 ((runAt C i).1 : Int)) ∧ w.cell? ⟨b, o + i * 3 + 1, none⟩ = some (.int .i64 ((runAt C i).2.1 : Int)) ∧ w.cell? ⟨b, o + i * 3 + 2, none⟩ = some (.int .i64 ((runAt C i).2.2 : Int)) := by
  have h0 := flat_cell rc 3 rc_len (by omega) h hi 0 (by omega)
  have h1 := flat_cell rc 3 rc_len (by omega) h hi 1 (by omega)
  have h2 := flat_cell rc 3 rc_len (by omega) h hi 2 (by omega)
  rw [← runAt_eq hi]
  exact ⟨h0, h1, h2⟩
theorem NROwn.at {w : World} {base n c : Nat} {a : Option Addr} {C : List Run} (h : NROwn w base (.slice a n c) C) : NRAt w a C := owns_cat h
theorem NROwn.below {w w' : World} {base : Nat} {v : Value} {C : List Run} (h : NROwn w base v C) (hb : Below w.heap.size w w') : NROwn w' base v C := owns_below h hb
theorem NROwn.nil (w : World) (base : Nat) : NROwn w base (.slice none 0 0) [] := World.ownsRow_nil _ _ _ _
theorem info50 : (Tryz.prog.info? 64).map (fun i => (i.zero, i.size, i.bytes)) = some (some (.agg #[.int .i64 0, .int .i64 0, .int .i64 0]), 3, 24) := by kernel_rfl

/-- Numbers from 0 on, as the program has them. -/
def cs (l : List Nat) : List Int := l.map Int.ofNat
theorem cs_len (l : List Nat) : (cs l).length = l.length := List.length_map _
theorem cs_app (l m : List Nat) : cs (l ++ m) = cs l ++ cs m := List.map_append
theorem cs_at {l : List Nat} {i : Nat} (h : i < l.length) : itAt (cs l) i = ((l.getD i 0 : Nat) : Int) := by
  simp [itAt, cs, h]
end Go.Proofs.YtomdghodbkhkaaaGreatDoor
