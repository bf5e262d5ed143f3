/- Bytes behind an address; a slice of bytes that the call itself has made; string(b). -/
import Derived.Test.YtebdlcgegdobkaaDoorRows
import Derived.WalkKit
import Derived.WalkSpells
import Derived.WalkLawsBesides
import Derived.Laws.BytesArg
import Derived.Deep.QuietTactic
import Derived.BigQuiet
import Derived.Lib.AppendStr
import Derived.Laws.CopyOwn
namespace Go.Proofs.YtebdlcgegdobkaaDoor
open Go.RowKit

/-- The bytes l lie behind the address a (nothing is asked of a where there are none). -/
def At (w : World) (a : Option Addr) (l : List UInt8) : Prop :=
  l ≠ [] → ∃ b o, a = some ⟨b, o, none⟩ ∧ ∀ i (h : i < l.length), w.cell? ⟨b, o + i, none⟩ = some (.int .u8 (l[i].toNat : Int))

theorem At.below {w w' : World} {a : Option Addr} {l : List UInt8} (h : At w a l) (hb : Below w.heap.size w w') : At w' a l := by
  intro hl
  obtain ⟨b, o, rfl, hc⟩ := h hl
  refine ⟨b, o, rfl, fun i hi => ?_⟩
  have h1 := hc i hi
  rw [hb.cell (p := ⟨b, o + i, none⟩) (by
    rcases Nat.lt_or_ge b w.heap.size with h2 | h2
    · exact h2
    · simp [World.cell?, Array.getElem?_eq_none h2] at h1)]
  exact h1

theorem ret_bool {a b : Bool} (h : a = b) : Ending.returned (.bool a) = .returned (.bool b) := by rw [h]

theorem ret_int {k : IntKind} {a b : Int} (h : a = b) : Ending.returned (.int k a) = .returned (.int k b) := by rw [h]

/-- A byte's cell. -/
def B (x : UInt8) : Value := .int .u8 (x.toNat : Int)

/-- Block g is a row that is known whole: the bytes l. -/
def Row (w : World) (g : Nat) (l : List UInt8) : Prop := w.heap[g]? = some (.cells (l.map B).toArray 5 (0, 0))

theorem Row.cell {w : World} {g : Nat} {l : List UInt8} (h : Row w g l) (i : Nat) (hi : i < l.length) : w.cell? ⟨g, i, none⟩ = some (.int .u8 (l[i].toNat : Int)) := by
  unfold Row at h
  simp [World.cell?, h, hi, B]

theorem Row.free {w : World} {g : Nat} {l : List UInt8} (h : Row w g l) (i : Nat) : w.frozen? ⟨g, i, none⟩ = false := by
  unfold Row at h
  simp [World.frozen?, h]

theorem Row.at {w : World} {g : Nat} {l : List UInt8} (h : Row w g l) : At w (some ⟨g, 0, none⟩) l := fun _ => ⟨g, 0, rfl, fun i hi => by rw [Nat.zero_add]; exact h.cell i hi⟩

theorem Row.lt {w : World} {g : Nat} {l : List UInt8} (h : Row w g l) : g < w.heap.size := by
  rcases Nat.lt_or_ge g w.heap.size with h2 | h2
  · exact h2
  · unfold Row at h; simp [Array.getElem?_eq_none h2] at h

theorem Row.below {w w' : World} {g : Nat} {l : List UInt8} (h : Row w g l) (hb : Below w.heap.size w w') : Row w' g l := by
  unfold Row; rw [hb.block g h.lt]; exact h

theorem Row.set {w : World} {g : Nat} {l : List UInt8} (h : Row w g l) (i : Nat) (x : UInt8) : Row (w.setCell ⟨g, i, none⟩ (B x)) g (l.set i x) := by
  unfold Row at *
  rw [setCell_eq_setRow w g i _ 5 (0, 0) (B x) h, setRow_heap w g _ _ 5 _ h]
  simp [List.map_set]

theorem info5 : (Tryd.prog.info? 5).map (fun i => (i.zero, i.size, i.bytes)) = some (some (.int .u8 0), 1, 1) := by kernel_rfl

theorem size5 : (Tryd.prog.info? 5).map (·.size) = some 1 := by kernel_rfl

theorem row_made {w : World} {base g n : Nat} (h : w.ownsRow base 5 1 (.slice (some ⟨g, 0, none⟩) n n) n (madeCells (Value.cells (.int .u8 0)) (n * 1)).toList) : Row w g (List.replicate n 0) := by
  obtain ⟨h1, h2⟩ := h
  rcases h2 with ⟨h3, _⟩ | ⟨g', cap, cur, hv, _, hh, _, _, hs, ht⟩
  · cases h3
  · simp at hv
    obtain ⟨rfl, rfl⟩ := hv
    unfold Row
    rw [hh]
    have e : cur.toList = List.replicate n (Value.int .u8 0) := by
      rw [List.take_of_length_le (by simp; omega)] at ht
      rw [ht]
      simp only [madeCells, Value.cells, Array.toList_map, Array.toList_range, Nat.mul_one]
      apply List.ext_getElem
      · simp
      · intro i h1 h2
        simp [Nat.mod_one]
    congr 2
    apply Array.toList_inj.1
    rw [e]
    simp [B]

/-- 'string(b)' of a slice behind whose address the bytes l lie. -/
theorem conv_run (w : World) (a : Option Addr) (l : List UInt8) (n c : Nat) (hl : l.length = n) (hat : At w a l) : (convert 57 9 (.slice a n c)).run Tryd.prog w = .ok (.string ⟨l.toArray⟩) w := by
  subst hl
  by_cases e : l = []
  · subst e
    cases a with
    | none => exact run_convert_bytes_nil (P := Tryd.prog) w 57 5 Tryd.underlying57 Tryd.underlying5 _ _ 9 Tryd.underlying9
    | some x =>
      have hl : (loadCells x 0).run Tryd.prog w = .ok #[] w := by simpa using run_loadCells_list (P := Tryd.prog) w x [] (by simp)
      rw [List.length_nil, run_convert_bytes_string w 57 9 5 _ 0 c Tryd.underlying57 Tryd.underlying5 Tryd.underlying9, run_bytesToString w _ 0 c [] (by simpa using hl)]
      rfl
  · obtain ⟨b, o, rfl, hc⟩ := hat e
    rw [run_convert_bytes_arg (P := Tryd.prog) w 57 5 Tryd.underlying57 Tryd.underlying5 b o l.length c (l.map fun x => (x.toNat : Int)) (by simp) (fun i hi => by
      rw [hc i hi]; simp [List.getD, hi]) 9 Tryd.underlying9]
    congr 2
    apply ByteArray.ext
    apply Array.toList_inj.1
    rw [strOfNums_data, List.map_map]
    show _ = l
    conv => rhs; rw [← List.map_id l]
    apply List.map_congr_left
    intro x _
    simp

theorem conv_empty (w : World) (a : Option Addr) (c : Nat) : (convert 57 9 (.slice a 0 c)).run Tryd.prog w = .ok (.string ByteArray.empty) w :=
  conv_run w a [] 0 c rfl (fun h => absurd rfl h)

theorem At.window {w : World} {b o : Nat} {l : List UInt8} (hc : ∀ i (h : i < l.length), w.cell? ⟨b, o + i, none⟩ = some (.int .u8 (l[i].toNat : Int))) (p n : Nat) : At w (some ⟨b, o + p, none⟩) ((l.drop p).take n) := by
  intro _
  refine ⟨b, o + p, rfl, fun i hi => ?_⟩
  simp at hi
  rw [Nat.add_assoc, hc (p + i) (by omega)]
  simp

theorem at_lit (w : World) (l : List UInt8) (cs : Array Value) (h : cs = (l.map B).toArray) : At (w.alloc (.cells cs 5)) (some ⟨w.heap.size, 0, none⟩) l := by
  subst h
  refine Row.at ?_
  unfold Row
  show (w.heap.push _)[w.heap.size]? = _
  simp

theorem below_lit (w : World) (o : Obj) : Below w.heap.size w (w.alloc o) := (Below.refl _ _).alloc (Nat.le_refl _) _

theorem bnext {w a b : World} (h : Below w.heap.size w a) (k : Below a.heap.size a b) : Below w.heap.size w b := h.trans (k.mono h.size)

end Go.Proofs.YtebdlcgegdobkaaDoor
