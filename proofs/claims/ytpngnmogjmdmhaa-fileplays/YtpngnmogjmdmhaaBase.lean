/- Bytes behind an address; a slice of bytes that the call itself has made; append, string(b), and the helpers that copy, lend and compare bytes; for up to 140737489000000 bytes. -/
import Derived.Test.YtpngnmogjmdmhaaRows
import Derived.WalkKit
import Derived.WalkSpells
import Derived.WalkLawsBesides
import Derived.Laws.BytesArg
import Derived.Deep.QuietTactic
import Derived.BigQuiet
import Derived.Lib.AppendStr
import Derived.Laws.CopyOwn
namespace Go.Proofs.Ytpngnmogjmdmhaa
open Go.RowKit

/-- The bytes l lie behind the address a (nothing is asked of a where there are none). -/
def At (w : World) (a : Option Addr) (l : List UInt8) : Prop :=
  l ≠ [] → ∃ b o, a = some ⟨b, o, none⟩ ∧ ∀ i (h : i < l.length), w.cell? ⟨b, o + i, none⟩ = some (.int .u8 (l[i].toNat : Int))

theorem At.below {w w' : World} {a : Option Addr} {l : List UInt8} (h : At w a l) (hb : Below w.heap.size w w') : At w' a l := by
  intro hl
  obtain ⟨b, o, rfl, hc⟩ := h hl
  refine ⟨b, o, rfl, fun i hi => ?_⟩
  have h1 := hc i hi
  rw [hb.cell (p := ⟨b, o + i, none⟩) (by
    rcases Nat.lt_or_ge b w.heap.size with h2 | h2
    · exact h2
    · simp [World.cell?, Array.getElem?_eq_none h2] at h1)]
  exact h1

theorem ret_bool {a b : Bool} (h : a = b) : Ending.returned (.bool a) = .returned (.bool b) := by rw [h]

theorem ret_int {k : IntKind} {a b : Int} (h : a = b) : Ending.returned (.int k a) = .returned (.int k b) := by rw [h]

/-- A byte's cell. -/
def B (x : UInt8) : Value := .int .u8 (x.toNat : Int)

/-- Block g is a row that is known whole: the bytes l. -/
def Row (w : World) (g : Nat) (l : List UInt8) : Prop := w.heap[g]? = some (.cells (l.map B).toArray 5 (0, 0))

theorem Row.cell {w : World} {g : Nat} {l : List UInt8} (h : Row w g l) (i : Nat) (hi : i < l.length) : w.cell? ⟨g, i, none⟩ = some (.int .u8 (l[i].toNat : Int)) := by
  unfold Row at h
  simp [World.cell?, h, hi, B]

theorem Row.free {w : World} {g : Nat} {l : List UInt8} (h : Row w g l) (i : Nat) : w.frozen? ⟨g, i, none⟩ = false := by
  unfold Row at h
  simp [World.frozen?, h]

theorem Row.at {w : World} {g : Nat} {l : List UInt8} (h : Row w g l) : At w (some ⟨g, 0, none⟩) l := fun _ => ⟨g, 0, rfl, fun i hi => by rw [Nat.zero_add]; exact h.cell i hi⟩

theorem Row.lt {w : World} {g : Nat} {l : List UInt8} (h : Row w g l) : g < w.heap.size := by
  rcases Nat.lt_or_ge g w.heap.size with h2 | h2
  · exact h2
  · unfold Row at h; simp [Array.getElem?_eq_none h2] at h

theorem Row.below {w w' : World} {g : Nat} {l : List UInt8} (h : Row w g l) (hb : Below w.heap.size w w') : Row w' g l := by
  unfold Row; rw [hb.block g h.lt]; exact h

theorem Row.set {w : World} {g : Nat} {l : List UInt8} (h : Row w g l) (i : Nat) (x : UInt8) : Row (w.setCell ⟨g, i, none⟩ (B x)) g (l.set i x) := by
  unfold Row at *
  rw [setCell_eq_setRow w g i _ 5 (0, 0) (B x) h, setRow_heap w g _ _ 5 _ h]
  simp [List.map_set]

theorem info5 : (Try.prog.info? 5).map (fun i => (i.zero, i.size, i.bytes)) = some (some (.int .u8 0), 1, 1) := by kernel_rfl

theorem size5 : (Try.prog.info? 5).map (·.size) = some 1 := by kernel_rfl

theorem row_made {w : World} {base g n : Nat} (h : w.ownsRow base 5 1 (.slice (some ⟨g, 0, none⟩) n n) n (madeCells (Value.cells (.int .u8 0)) (n * 1)).toList) : Row w g (List.replicate n 0) := by
  obtain ⟨h1, h2⟩ := h
  rcases h2 with ⟨h3, _⟩ | ⟨g', cap, cur, hv, _, hh, _, _, hs, ht⟩
  · cases h3
  · simp at hv
    obtain ⟨rfl, rfl⟩ := hv
    unfold Row
    rw [hh]
    have e : cur.toList = List.replicate n (Value.int .u8 0) := by
      rw [List.take_of_length_le (by simp; omega)] at ht
      rw [ht]
      simp only [madeCells, Value.cells, Array.toList_map, Array.toList_range, Nat.mul_one]
      apply List.ext_getElem
      · simp
      · intro i h1 h2
        simp [Nat.mod_one]
    congr 2
    apply Array.toList_inj.1
    rw [e]
    simp [B]

/-- 'string(b)' of a slice behind whose address the bytes l lie. -/
theorem conv_run (w : World) (a : Option Addr) (l : List UInt8) (n c : Nat) (hl : l.length = n) (hat : At w a l) : (convert 26 9 (.slice a n c)).run Try.prog w = .ok (.string ⟨l.toArray⟩) w := by
  subst hl
  by_cases e : l = []
  · subst e
    cases a with
    | none => exact run_convert_bytes_nil (P := Try.prog) w 26 5 Try.underlying26 Try.underlying5 _ _ 9 Try.underlying9
    | some x =>
      have hl : (loadCells x 0).run Try.prog w = .ok #[] w := by simpa using run_loadCells_list (P := Try.prog) w x [] (by simp)
      rw [List.length_nil, run_convert_bytes_string w 26 9 5 _ 0 c Try.underlying26 Try.underlying5 Try.underlying9, run_bytesToString w _ 0 c [] (by simpa using hl)]
      rfl
  · obtain ⟨b, o, rfl, hc⟩ := hat e
    rw [run_convert_bytes_arg (P := Try.prog) w 26 5 Try.underlying26 Try.underlying5 b o l.length c (l.map fun x => (x.toNat : Int)) (by simp) (fun i hi => by
      rw [hc i hi]; simp [List.getD, hi]) 9 Try.underlying9]
    congr 2
    apply ByteArray.ext
    apply Array.toList_inj.1
    rw [strOfNums_data, List.map_map]
    show _ = l
    conv => rhs; rw [← List.map_id l]
    apply List.map_congr_left
    intro x _
    simp

theorem conv_empty (w : World) (a : Option Addr) (c : Nat) : (convert 26 9 (.slice a 0 c)).run Try.prog w = .ok (.string ByteArray.empty) w :=
  conv_run w a [] 0 c rfl (fun h => absurd rfl h)

theorem At.window {w : World} {b o : Nat} {l : List UInt8} (hc : ∀ i (h : i < l.length), w.cell? ⟨b, o + i, none⟩ = some (.int .u8 (l[i].toNat : Int))) (p n : Nat) : At w (some ⟨b, o + p, none⟩) ((l.drop p).take n) := by
  intro _
  refine ⟨b, o + p, rfl, fun i hi => ?_⟩
  simp at hi
  rw [Nat.add_assoc, hc (p + i) (by omega)]
  simp

theorem same_any (a1 a2 : Option Addr) (n1 n2 c1 c2 : Nat) (l1 l2 : List UInt8) (w : World) (h1 : l1.length = n1) (h2 : l2.length = n2) (at1 : At w a1 l1) (at2 : At w a2 l2) (h : l1 = l2) :
    Calls Try.prog 23 #[.slice a1 n1 c1, .slice a2 n2 c2] w fun e w' => e = .returned (.bool true) ∧ w' = w := by
  have HH : Hid (l1 = l2) := h
  clear h
  have k1 := conv_run w a1 l1 n1 c1 h1 at1
  have k2 := conv_run w a2 l2 n2 c2 h2 at2
  go_enter Try.func23, Try.ntmps23
  go_wp2
  go_ret
  exact ⟨ret_bool (by rw [HH.out]; simp), rfl⟩

/-- The answer is a new slice of n bytes, l; nothing old has turned. -/
def Fresh (w w' : World) (g : Nat) (l : List UInt8) : Prop := Row w' g l ∧ Below w.heap.size w w'

theorem at_lit (w : World) (l : List UInt8) (cs : Array Value) (h : cs = (l.map B).toArray) : At (w.alloc (.cells cs 5)) (some ⟨w.heap.size, 0, none⟩) l := by
  subst h
  refine Row.at ?_
  unfold Row
  show (w.heap.push _)[w.heap.size]? = _
  simp

theorem at_lit' (w : World) (g : Nat) (l : List UInt8) (cs : Array Value) (hg : w.heap.size = g) (h : cs = (l.map B).toArray) : At (w.alloc (.cells cs 5)) (some ⟨g, 0, none⟩) l := by
  subst hg; exact at_lit w l cs h

theorem at_nil (w : World) (a : Option Addr) : At w a [] := fun h => absurd rfl h

theorem below_lit (w : World) (o : Obj) : Below w.heap.size w (w.alloc o) := (Below.refl _ _).alloc (Nat.le_refl _) _

theorem bnext {w a b : World} (h : Below w.heap.size w a) (k : Below a.heap.size a b) : Below w.heap.size w b := h.trans (k.mono h.size)

/-- v is nil or a row of the call's own (block numbers from base on), and its elements are the bytes l. -/
def Own (w : World) (base : Nat) (v : Value) (l : List UInt8) : Prop := w.ownsRow base 5 1 v l.length (l.map B)

theorem Own.nil (w : World) (base : Nat) : Own w base (.slice none 0 0) [] := World.ownsRow_nil w base 5 1

/-- The value's shape. -/
theorem Own.form {w : World} {base : Nat} {v : Value} {l : List UInt8} (h : Own w base v l) : ∃ a cap, v = .slice a l.length cap ∧ l.length ≤ cap ∧ At w a l := by
  rcases h.2 with ⟨rfl, hn⟩ | ⟨g, cap, cur, rfl, _, hg, hnc, _, hcs, ht⟩
  · have : l = [] := List.eq_nil_of_length_eq_zero hn
    subst this
    exact ⟨none, 0, rfl, Nat.le_refl _, fun h => absurd rfl h⟩
  · refine ⟨_, cap, rfl, hnc, fun _ => ⟨g, 0, rfl, fun i hi => ?_⟩⟩
    have hc : cur.toList[i]? = some (B l[i]) := by
      have : (cur.toList.take (l.length * 1))[i]? = some (B l[i]) := by rw [ht]; simp [hi]
      rw [List.getElem?_take] at this
      simpa [hi] using this
    have hc' : cur[i]? = some (B l[i]) := by simpa using hc
    rw [Nat.zero_add]
    simp [World.cell?, hg, hc', B]

theorem Own.form_pos {w : World} {base : Nat} {v : Value} {l : List UInt8} (h : Own w base v l) (hne : l ≠ []) : ∃ g cap, v = .slice (some ⟨g, 0, none⟩) l.length cap ∧ l.length ≤ cap ∧ At w (some ⟨g, 0, none⟩) l := by
  obtain ⟨a, cap, hv, hc, hat⟩ := h.form
  rcases h.2 with ⟨rfl, hn⟩ | ⟨g, cap', cur, hv', _, _, _, _, _, _⟩
  · exact absurd (List.eq_nil_of_length_eq_zero hn) hne
  · rw [hv] at hv'
    simp at hv'
    obtain ⟨rfl, rfl⟩ := hv'
    exact ⟨g, cap, hv, hc, hat⟩

theorem Own.le {w : World} {base base' : Nat} {v : Value} {l : List UInt8} (h : Own w base v l) (hb : base' ≤ base) : Own w base' v l := by
  refine ⟨h.1, ?_⟩
  rcases h.2 with h1 | ⟨g, cap, cur, h1, h2, h3⟩
  · exact .inl h1
  · exact .inr ⟨g, cap, cur, h1, by omega, h3⟩

theorem fits (need old : Nat) (h : old < need) (hb : need ≤ 140737489000000) : Builtin.nextslicecap need old ≤ 281474976710656 := by
  unfold Builtin.nextslicecap
  split
  · omega
  · split
    · omega
    · rw [growBy_four]
      repeat' split
      all_goals omega

theorem own_grown (w : World) (base : Nat) (l m : List UInt8) (old : Nat) (hb : l.length + m.length ≤ 140737489000000) (hbase : base ≤ w.heap.size) :
    Own (w.drew.alloc (.cells ((l.map B).toArray ++ (m.map B).toArray ++ Builtin.zeroCells (Value.cells (.int .u8 0)) (grownCap w (l.length + m.length) old 5 - (l.length + m.length))) 5)) base
      (.slice (some ⟨w.heap.size, 0, none⟩) (l.length + m.length) (grownCap w (l.length + m.length) old 5)) (l ++ m) ∧
    Below base w (w.drew.alloc (.cells ((l.map B).toArray ++ (m.map B).toArray ++ Builtin.zeroCells (Value.cells (.int .u8 0)) (grownCap w (l.length + m.length) old 5 - (l.length + m.length))) 5)) := by
  have hge := grownCap_ge w (l.length + m.length) old 5
  have hcm : grownCap w (l.length + m.length) old 5 ≤ maxLen := grownCap_le_maxLen w (l.length + m.length) old 5 (by unfold maxLen; omega)
  refine ⟨⟨by simp, .inr ⟨w.heap.size, grownCap w (l.length + m.length) old 5, _, by rw [List.length_append], hbase, heap_alloc_new w.drew _, by rw [List.length_append]; exact hge, hcm, ?_, ?_⟩⟩, (Below.refl _ _).drew.alloc hbase _⟩
  · have hz1 : (Value.int IntKind.u8 0).cells.size = 1 := rfl
    simp only [Array.size_append, List.size_toArray, size_zeroCells, hz1, List.length_map]
    omega
  · simp only [Array.toList_append, List.append_assoc]
    rw [← List.append_assoc, ← List.map_append]
    have e : (l ++ m).length * 1 = ((l ++ m).map B).length := by simp
    rw [e]
    exact List.take_left

theorem At.head {w : World} {a : Option Addr} {l z : List UInt8} (h : At w a (l ++ z)) : At w a l := by
  intro hl
  obtain ⟨b, o, rfl, hc⟩ := h (by simp [hl])
  refine ⟨b, o, rfl, fun i hi => ?_⟩
  rw [hc i (by simp; omega), List.getElem_append_left hi]

theorem B_one (l : List UInt8) : ∀ u ∈ l.map B, u.oneCell' = true := by
  intro v hv; simp at hv; obtain ⟨x, _, rfl⟩ := hv; rfl

theorem At.src {w : World} {x : Addr} {m : List UInt8} (h : At w (some x) m) : ∀ j v, (m.map B)[j]? = some v → w.cell? (x.add j) = some v := by
  intro j v hj
  have hjl : j < m.length := by
    rcases Nat.lt_or_ge j m.length with h | h
    · exact h
    · simp [List.getElem?_eq_none (show (m.map B).length ≤ j by simpa using h)] at hj
  obtain ⟨b, q, hx, hc⟩ := h (by intro e; subst e; simp at hjl)
  cases hx
  have hplain : (⟨b, q, none⟩ : Addr).add j = ⟨b, q + j, none⟩ := by unfold Addr.add; split <;> simp_all
  rw [hplain, hc j hjl]
  simp [List.getElem?_eq_getElem hjl] at hj
  subst hj
  rfl

theorem Own.setRow {w : World} {base g cap : Nat} {cur : Array Value} {l m : List UInt8} (hbg : base ≤ g) (hg : w.heap[g]? = some (.cells cur 5 (0, 0))) (hroom : l.length + m.length ≤ cap) (hcm : cap ≤ maxLen) (hcs : cur.size = cap) (ht : cur.toList.take l.length = l.map B) :
    Own (w.setRow g (cur.toList.take l.length ++ m.map B ++ cur.toList.drop (l.length + m.length)).toArray) base (.slice (some ⟨g, 0, none⟩) (l.length + m.length) cap) (l ++ m) ∧ Below base w (w.setRow g (cur.toList.take l.length ++ m.map B ++ cur.toList.drop (l.length + m.length)).toArray) := by
  refine ⟨⟨by simp, .inr ⟨g, cap, _, by rw [List.length_append], hbg, setRow_heap w g cur _ 5 _ hg, by rw [List.length_append]; exact hroom, hcm, ?_, ?_⟩⟩, below_setRow (Below.refl _ _) hbg _⟩
  · simp only [List.size_toArray, List.length_append, List.length_take, List.length_drop, Array.length_toList, List.length_map]
    omega
  · rw [ht, ← List.map_append]
    have e : (l ++ m).length * 1 = ((l ++ m).map B).length := by simp
    rw [e]
    exact List.take_left

/-- 'append(v, src...)', v the call's own; what is turned is v's own row alone, and the answer's row is that one or new. -/
theorem app_more (w : World) (base : Nat) (v : Value) (l src : List UInt8) (hown : Own w base v l) (a : Option Addr) (m c : Nat) (hs : src.length = m) (hat : At w a src) (hb : l.length + m ≤ 140737489000000) (hbase : base ≤ w.heap.size) :
    ∃ v' w', (Builtin.append_ #[26, 26] 26 #[v, .slice a m c]).run Try.prog w = .ok v' w' ∧ Own w' base v' (l ++ src) ∧ w.grownBy w' v.ownBlock ∧ ∀ k, v'.ownBlock = some k → v.ownBlock = some k ∨ w.heap.size ≤ k := by
  subst hs
  obtain ⟨i0, hi, hz0, hz1, hz2⟩ := info_parts info5
  cases a with
  | none =>
    have he : src = [] := by
      rcases src with _ | ⟨x, r⟩
      · rfl
      · obtain ⟨b, o, h, _⟩ := hat (by simp); cases h
    subst he
    refine ⟨v, w, ?_, by simpa using hown, World.grownBy.refl _ _, fun k hk => .inl hk⟩
    rcases hown.2 with ⟨rfl, hn⟩ | ⟨g, cap, cur, rfl, hbg, hg, hnc, hcm, hcs, htake⟩
    · simp [Builtin.append_, run_underlying Try.underlying26, sizeOf, typeInfo, hi, Builtin.lenOf, Builtin.firstCells]
    · simp [Builtin.append_, run_underlying Try.underlying26, sizeOf, typeInfo, hi, Builtin.lenOf, Builtin.firstCells, hnc, storeCells]
  | some x =>
    have hsrc := hat.src
    rcases hown.2 with ⟨rfl, hn⟩ | ⟨g, cap, cur, rfl, hbg, hg, hnc, hcm, hcs, htake⟩
    · have hl0 : l = [] := List.eq_nil_of_length_eq_zero hn
      subst hl0
      by_cases hm : src = []
      · subst hm
        refine ⟨.slice none 0 0, w, ?_, Own.nil w base, World.grownBy.refl _ _, fun k hk => .inl hk⟩
        simp [Builtin.append_, run_underlying Try.underlying26, sizeOf, typeInfo, hi, Builtin.lenOf, Builtin.firstCells, loadCells, loadCellsFrom]
      · have hp : 0 < src.length := List.length_pos_iff.2 hm
        have hr := run_append_nil (P := Try.prog) w 26 26 5 i0 (.int .u8 0) Try.underlying26 hi hz0 x src.length c (src.map B) (by simp [hz1]) hsrc hp (by simp at hb; omega) (by rw [hz2]; simp at hb; omega)
        have hgr := own_grown w base [] src 0 (by simpa using hb) hbase
        simp only [List.length_nil, Nat.zero_add, List.nil_append, List.map_nil, Array.empty_append] at hgr ⊢
        exact ⟨_, _, hr, hgr.1, ⟨rfl, rfl, rfl, by simp, fun k hk _ => Below.heap_alloc w.drew _ k hk⟩, fun k hk => .inr (by simp [Value.ownBlock] at hk; omega)⟩
    · by_cases hroom : l.length + src.length ≤ cap
      · have hr := run_append_room (P := Try.prog) w 26 26 5 i0 Try.underlying26 hi g l.length cap cur hg x src.length c (src.map B) (by simp [hz1]) hsrc (B_one src) hroom (by rw [hz1, List.length_map]; omega)
        rw [hz1, Nat.mul_one, List.length_map] at hr
        have hgr := Own.setRow hbg hg hroom hcm (by simpa using hcs) (by simpa using htake)
        exact ⟨_, _, hr, hgr.1, ⟨rfl, rfl, rfl, by simp, fun k _ hk => setRow_other w g k _ (fun e => hk (by simp [Value.ownBlock, e]))⟩, fun k hk => .inl hk⟩
      · have holds : ∀ j u, (l.map B)[j]? = some u → w.cell? ((⟨g, 0, none⟩ : Addr).add j) = some u := hown.cells (g := g) rfl
        have hr := run_append_grow (P := Try.prog) w 26 26 5 i0 (.int .u8 0) Try.underlying26 hi hz0 ⟨g, 0, none⟩ l.length cap (l.map B) (by simp [hz1]) holds x src.length c (src.map B) (by simp [hz1]) hsrc (by omega) (by omega) (by rw [hz2, Nat.mul_one]; exact fits _ _ (by omega) hb)
        have hgr := own_grown w base l src cap hb hbase
        exact ⟨_, _, hr, hgr.1, ⟨rfl, rfl, rfl, by simp, fun k hk _ => Below.heap_alloc w.drew _ k hk⟩, fun k hk => .inr (by simp [Value.ownBlock] at hk; omega)⟩

theorem app_slice (w : World) (base : Nat) (v : Value) (l src : List UInt8) (hown : Own w base v l) (a : Option Addr) (m c : Nat) (hs : src.length = m) (hat : At w a src) (hb : l.length + m ≤ 140737489000000) (hbase : base ≤ w.heap.size) :
    ∃ v' w', (Builtin.append_ #[26, 26] 26 #[v, .slice a m c]).run Try.prog w = .ok v' w' ∧ Own w' base v' (l ++ src) ∧ Below base w w' := by
  obtain ⟨v', w', h1, h2, h3, _⟩ := app_more w base v l src hown a m c hs hat hb hbase
  exact ⟨v', w', h1, h2, (Below.refl _ _).grown h3 hbase fun k hk => (World.ownsRow.lt hown k hk).1⟩

/-- 'append(v, x...)' at the operation: v the call's own, x a slice of bytes. -/
theorem wpList_app (w : World) {ops : Array Oper} {rest : List Oper} {o : Oper} {a : Act} {Q : Exit → Act → World → Prop} (hgd : o.guard = none) (s x : Operand)
    (ho : o.op = .call { callee := .builtin .append, args := #[s, x], argTypes := #[26, 26] }) (hty : o.type = 26)
    (base : Nat) (v : Value) (l src : List UInt8) (hs : a.eval s = v) (hown : Own w base v l) (ad : Option Addr) (m c : Nat) (hx : a.eval x = .slice ad m c) (hm : src.length = m) (hat : At w ad src)
    (hb : l.length + m ≤ 140737489000000) (hbase : base ≤ w.heap.size)
    (h : ∀ v' w', Own w' base v' (l ++ src) → Below base w w' → wpList Try.prog ops Q rest (a.put o.dst v') w') : wpList Try.prog ops Q (o :: rest) a w := by
  obtain ⟨v', w', hrun, h1, h2⟩ := app_slice w base v l src hown ad m c hm hat hb hbase
  refine wpList_plain hgd fun K hK => ?_
  unfold Oper.wp
  simp [execOp, ho, hty, resolve, invoke, builtin, hs, hx, hrun, Result.andThen]
  exact hK _ _ (h v' w' h1 h2)

theorem copy_any (a : Option Addr) (cap len : Nat) (l : List UInt8) (w : World) (hl : l.length = len) (hlen : len ≤ 140737488355328) (hat : At w a l) :
    Calls Try.prog 56 #[.slice a len cap] w fun e w' => ∃ v, e = .returned v ∧ Own w' w.heap.size v l ∧ Below w.heap.size w w' := by
  go_enter Try.func56, Try.ntmps56
  go_wp2_with (at_builtin; refine wpList_app _ rfl (.tmp 4) (.tmp 5) rfl rfl w.heap.size _ [] l rfl (Own.nil _ _) a len cap rfl hl hat (by simp; omega) (Nat.le_refl _) ?_; intro v1 w1 ho1 hb1)
  go_ret
  exact ⟨_, rfl, ho1, hb1⟩

theorem Own.alloc {w : World} {base : Nat} {v : Value} {l : List UInt8} (h : Own w base v l) (o : Obj) : Own (w.alloc o) base v l := World.ownsRow.alloc h o

theorem lent_any (a : Option Addr) (cap len : Nat) (l : List UInt8) (w : World) (hl : l.length = len) (hlen : len ≤ 140737488355328) (hat : At w a l) :
    Calls Try.prog 39 #[.slice a len cap] w fun e w' => ∃ g c, e = .returned (.slice (some ⟨g, 0, none⟩) len c) ∧ len + 3 ≤ c ∧ At w' (some ⟨g, 0, none⟩) (l ++ [77, 78, 79]) ∧ Below w.heap.size w w' := by
  go_enter Try.func39, Try.ntmps39
  go_wp2_with fail
  refine (copy_any a cap len l _ hl hlen hat).mono ?_
  rintro e w1 ⟨v1, rfl, ho1, hb1⟩
  have hz := hb1.size
  go_wp2_with (at_builtin; refine wpList_app _ rfl (.tmp 5) (.tmp 6) rfl rfl w.heap.size v1 l [77, 78, 79] rfl (ho1.alloc _) (some ⟨w1.heap.size, 0, none⟩) 3 3 rfl rfl (at_lit w1 [77, 78, 79] _ rfl) (by omega) (by simp; omega) ?_; intro v2 w2 ho2 hb2; obtain ⟨g2, c2, hv2, hc2, hat2⟩ := ho2.form_pos (by simp); have hc3 : len + 3 ≤ c2 := (by rw [List.length_append, hl] at hc2; exact hc2); rw [hv2])
  go_ret
  exact ⟨g2, c2, rfl, hc3, hat2, (hb1.alloc hz _).trans hb2⟩

/-- The lent bytes, and what stands behind them, are as they were. -/
theorem kept_any (g c cap len : Nat) (a : Option Addr) (l : List UInt8) (w : World) (hl : l.length = len) (hlen : len ≤ 140737488355328) (hc : len + 3 ≤ c) (hat1 : At w (some ⟨g, 0, none⟩) (l ++ [77, 78, 79])) (hat : At w a l) :
    Calls Try.prog 41 #[.slice (some ⟨g, 0, none⟩) len c, .slice a len cap] w fun e w' => e = .returned (.bool true) ∧ w' = w := by
  obtain ⟨b, o, he, hcell⟩ := hat1 (by simp)
  simp at he
  obtain ⟨rfl, rfl⟩ := he
  have c0 : w.cell? ⟨g, len, none⟩ = some (.int .u8 77) := by have := hcell len (by simp; omega); simp [hl] at this; simpa [← hl] using this
  have c1 : w.cell? ⟨g, len + 1, none⟩ = some (.int .u8 78) := by have := hcell (len + 1) (by simp; omega); simp [← hl] at this; simpa [← hl] using this
  have c2 : w.cell? ⟨g, len + 2, none⟩ = some (.int .u8 79) := by have := hcell (len + 2) (by simp; omega); simp [← hl] at this; simpa [← hl] using this
  go_enter Try.func41, Try.ntmps41
  go_wp2_with fail
  refine (same_any _ _ len len _ _ l l _ hl hl (At.head hat1) hat rfl).mono ?_
  rintro e w1 ⟨rfl, rfl⟩
  go_wp2
  go_ret
  exact ⟨rfl, rfl⟩

end Go.Proofs.Ytpngnmogjmdmhaa
