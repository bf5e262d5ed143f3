/- Packets on their way, as a list by rising numbers; the same as a map by their numbers; a net in memory. -/
import Derived.Test.YtgjjgfppolmkoaaKeep
import Derived.Test.YtgjjgfppolmkoaaShelf
import Derived.Maps.OwnSet
namespace Go.Proofs.Ytgjjgfppolmkoaa
open Go.RowKit Go.Maps

theorem hid {p : Prop} (h : p) : Hid p := h

/-- A packet, and where its body lies. -/
structure Pk where
  num : Int
  fr : Int
  to : Int
  a : Option Addr
  c : Nat
  body : List UInt8

def Pk.val (p : Pk) : Value := .agg #[.int .i64 p.num, .int .i64 p.fr, .int .i64 p.to, .slice p.a p.body.length p.c]

/-- A map's element reads as it stands. -/
def RV (v : Value) : Option (DataW Value × List MemPlace) := some (.held v, [])

def ent (p : Pk) : Lit × DataW Value := (.int .i64 p.num, .held p.val)

def mapOf (L : List Pk) : DataW Value := .map (L.map ent)

def Rising (L : List Pk) : Prop := L.Pairwise fun p q => p.num < q.num
def findP (L : List Pk) (k : Int) : Option Pk := L.find? fun p => p.num == k
def delP (L : List Pk) (k : Int) : List Pk := L.filter fun p => p.num != k

theorem same_i (a b : Int) : (Lit.int .i64 a).sameKey (.int .i64 b) = (a == b) := by
  rw [Bool.eq_iff_iff]; simp [Lit.sameKey]

theorem insert_last (x : Lit × DataW Value) : ∀ l : List (Lit × DataW Value), (∀ y ∈ l, x.1.before y.1 = false) → DataW.insert x l = l ++ [x]
  | [], _ => rfl
  | y :: r, h => by
    rw [DataW.insert, if_neg (by rw [h y (by simp)]; simp), insert_last x r (fun z hz => h z (by simp [hz]))]
    rfl

theorem mapOf_put (L : List Pk) (q : Pk) (h : ∀ p ∈ L, p.num < q.num) : (mapOf L).put (.int .i64 q.num) (.held q.val) = mapOf (L ++ [q]) := by
  show DataW.map (DataW.insert _ ((L.map ent).filter _)) = _
  have e : ((L.map ent).filter fun p => !p.1.sameKey (.int .i64 q.num)) = L.map ent := by
    rw [List.filter_eq_self]
    intro y hy
    obtain ⟨p, hp, rfl⟩ := List.mem_map.1 hy
    have := h p hp
    show (!(Lit.int .i64 p.num).sameKey (.int .i64 q.num)) = true
    rw [same_i]
    simp
    omega
  rw [e, insert_last _ _ (fun y hy => by
    obtain ⟨p, hp, rfl⟩ := List.mem_map.1 hy
    have := h p hp
    show decide (q.num < p.num) = false
    simp
    omega)]
  simp [mapOf, ent]

theorem mapOf_del (L : List Pk) (k : Int) : (mapOf L).del (.int .i64 k) = mapOf (delP L k) := by
  show DataW.map ((L.map ent).filter _) = _
  unfold mapOf delP
  rw [List.filter_map]
  congr 2
  apply List.filter_congr
  intro p _
  show (!(Lit.int .i64 p.num).sameKey (.int .i64 k)) = (p.num != k)
  rw [same_i]
  rfl

theorem mapOf_has (L : List Pk) (k : Int) : Maps.has (mapOf L) (.int .i64 k) = (findP L k).isSome := by
  show (L.map ent).any _ = _
  rw [List.any_map]
  unfold findP
  rw [Bool.eq_iff_iff, List.find?_isSome]
  simp only [List.any_eq_true, Function.comp]
  constructor
  · rintro ⟨p, hp, h⟩
    exact ⟨p, hp, by have h2 : (Lit.int .i64 p.num).sameKey (.int .i64 k) = true := h; rw [same_i] at h2; exact h2⟩
  · rintro ⟨p, hp, h⟩
    exact ⟨p, hp, by show (Lit.int .i64 p.num).sameKey (.int .i64 k) = true; rw [same_i]; exact h⟩

theorem mapOf_at (L : List Pk) (k : Int) (z : DataW Value) : (mapOf L).atKey (.int .i64 k) z = (match findP L k with | some p => .held p.val | none => z) := by
  have e : (L.map ent).find? (fun p => p.1.sameKey (.int .i64 k)) = (findP L k).map ent := by
    rw [List.find?_map]
    congr 1
    unfold findP
    congr 1
    funext p
    show (Lit.int .i64 p.num).sameKey (.int .i64 k) = (p.num == k)
    exact same_i _ _
  unfold mapOf DataW.atKey
  simp only [e]
  cases findP L k <;> rfl

theorem mapOf_size (L : List Pk) : Maps.size (mapOf L) = L.length := by simp [Maps.size, mapOf]

theorem mapOf_keys (L : List Pk) : intKeys (mapOf L) = L.map Pk.num := by
  show (L.map ent).map (fun p => Go.intOf p.1) = _
  rw [List.map_map]
  rfl

theorem sorted_keys (L : List Pk) (hr : Rising L) (ss : List Int) (h : ss.Perm (L.map Pk.num)) : ss.mergeSort (fun x y => decide (x ≤ y)) = L.map Pk.num := by
  have h1 : (ss.mergeSort (fun x y => decide (x ≤ y))).Perm (L.map Pk.num) := (List.mergeSort_perm _ _).trans h
  have h2 : (ss.mergeSort (fun x y => decide (x ≤ y))).Pairwise (fun x y => decide (x ≤ y) = true) := List.pairwise_mergeSort (fun a b c => by simp; omega) (fun a b => by simp; omega) ss
  have h3 : (L.map Pk.num).Pairwise (fun x y => decide (x ≤ y) = true) := by
    rw [List.pairwise_map]
    exact hr.imp (fun {a b} h => by simp; omega)
  exact List.Perm.eq_of_pairwise (le := fun x y => decide (x ≤ y) = true) (fun a b _ _ h1 h2 => by simp at h1 h2; omega) h2 h3 h1

theorem ownsMap_tight {k : TypeId} {w : World} {m n : Nat} {D : DataW Value} (h : w.ownsMap Try.prog k RV m n D) : w.ownsMap Try.prog k RV m (Maps.size D) D := by
  obtain ⟨es, clock, hb, F, hs, rfl⟩ := h
  refine ⟨es, clock, hb, F, ?_, rfl⟩
  have : (es.toList.map (WideElems.rg Try.prog k RV)).length = es.size := by simp
  rw [← this, ← length_sorted]
  exact Nat.le_refl _

theorem Rising.snoc {L : List Pk} {q : Pk} (h : Rising L) (hq : ∀ p ∈ L, p.num < q.num) : Rising (L ++ [q]) := by
  unfold Rising
  rw [List.pairwise_append]
  exact ⟨h, by simp, fun a ha b hb => by simp at hb; subst hb; exact hq a ha⟩

theorem Rising.del {L : List Pk} (h : Rising L) (k : Int) : Rising (delP L k) := List.Pairwise.filter _ h

theorem mem_del {L : List Pk} {k : Int} {q : Pk} (h : q ∈ delP L k) : q ∈ L := (List.mem_filter.1 h).1

theorem find_mem {L : List Pk} {k : Int} {q : Pk} (h : findP L k = some q) : q ∈ L ∧ q.num = k := ⟨List.mem_of_find?_eq_some h, by simpa using List.find?_some h⟩

theorem find_of_mem {L : List Pk} (hr : Rising L) {q : Pk} (h : q ∈ L) : findP L q.num = some q := by
  cases e : findP L q.num with
  | none => exact absurd (List.find?_eq_none.1 e q h) (by simp)
  | some q' =>
    obtain ⟨h1, h2⟩ := find_mem e
    rcases List.getElem_of_mem h with ⟨i, hi, rfl⟩
    rcases List.getElem_of_mem h1 with ⟨j, hj, rfl⟩
    have hp := List.pairwise_iff_getElem.1 hr
    rcases Nat.lt_trichotomy i j with h3 | h3 | h3
    · have := hp i j hi hj h3; omega
    · subst h3; rfl
    · have := hp j i hj hi h3; omega

/-- The bodies of packets lie in memory. -/
structure Bodies (w : World) (L : List Pk) : Prop where
  at_ : ∀ q ∈ L, At w q.a q.body
  lt : ∀ q ∈ L, ∀ x, q.a = some x → x.block < w.heap.size
  short : ∀ q ∈ L, q.body.length ≤ 65545

/-- A net in memory: p its block, m its map's. -/
structure NAt (w : World) (p m : Nat) (L : List Pk) (last : Nat) : Prop where
  blk : w.heap[p]? = some (.cells #[.map (some m), .int .i64 (last : Int)] 56 (0, 0))
  own : w.ownsMap Try.prog 3 RV m L.length (mapOf L)
  rise : Rising L
  nums : ∀ q ∈ L, 1 ≤ q.num ∧ q.num ≤ last
  bodies : Bodies w L
  off : ∀ q ∈ L, ∀ x, q.a = some x → x.block ≠ p ∧ x.block ≠ m

theorem Bodies.kp {S : Nat → Prop} {w w' : World} {L : List Pk} (h : Bodies w L) (hk : Kp S w w') (hn : ∀ q ∈ L, ∀ x, q.a = some x → ¬ S x.block) : Bodies w' L :=
  ⟨fun q hq => (h.at_ q hq).kp hk (hn q hq), fun q hq x hx => Nat.lt_of_lt_of_le (h.lt q hq x hx) hk.size, h.short⟩

theorem Bodies.sub {w : World} {L L' : List Pk} (h : Bodies w L) (hs : ∀ q ∈ L', q ∈ L) : Bodies w L' := ⟨fun q hq => h.at_ q (hs q hq), fun q hq => h.lt q (hs q hq), fun q hq => h.short q (hs q hq)⟩

section
variable {w : World} {p m : Nat} {L : List Pk} {last : Nat}

theorem NAt.lt (h : NAt w p m L last) : p < w.heap.size := (Array.getElem?_eq_some_iff.1 h.blk).1

theorem NAt.ne (h : NAt w p m L last) : p ≠ m := by
  intro e
  obtain ⟨es, clock, hb, _⟩ := h.own
  have h1 := h.blk
  rw [e, hb] at h1
  simp at h1

theorem NAt.c0 (h : NAt w p m L last) : w.cell? ⟨p, 0, none⟩ = some (.map (some m)) := by simp [World.cell?, h.blk]
theorem NAt.c1 (h : NAt w p m L last) : w.cell? ⟨p, 1, none⟩ = some (.int .i64 (last : Int)) := by simp [World.cell?, h.blk]
theorem NAt.free (h : NAt w p m L last) (i : Nat) : w.frozen? ⟨p, i, none⟩ = false := by simp [World.frozen?, h.blk]

theorem own_kp {S : Nat → Prop} {k : TypeId} {w' : World} {n : Nat} {D : DataW Value} (h : w.ownsMap Try.prog k RV m n D) (hk : Kp S w w') (hn : ¬ S m) : w'.ownsMap Try.prog k RV m n D := by
  have hl := h.lt
  obtain ⟨es, clock, hb, F, hs, hD⟩ := h
  exact ⟨es, clock, (hk.block m hl hn).trans hb, F, hs, hD⟩

theorem NAt.kp {S : Nat → Prop} {w' : World} (h : NAt w p m L last) (hk : Kp S w w') (hp : ¬ S p) (hm : ¬ S m) (hn : ∀ q ∈ L, ∀ x, q.a = some x → ¬ S x.block) : NAt w' p m L last :=
  ⟨(hk.block p h.lt hp).trans h.blk, own_kp h.own hk hm, h.rise, h.nums, h.bodies.kp hk hn, h.off⟩

theorem NAt.below {w' : World} (h : NAt w p m L last) (hb : Below w.heap.size w w') : NAt w' p m L last := h.kp (S := fun _ => False) (Kp.of_below hb) (fun h => h) (fun h => h) (fun _ _ _ _ h => h)

theorem key_ok {k : Int} (hk : (Lit.int .i64 k).wf = true) : keyOf Try.prog 3 (.int .i64 k) = some (.int .i64 k) := keyOf_int_mk Try.underlying3 hk

theorem law3 : Keyed Try.prog 3 := int_keyed Try.underlying3
theorem zero31 (w : World) : (zeroValue 31).run Try.prog w = .ok (.agg #[.int .i64 0, .int .i64 0, .int .i64 0, .slice none 0 0]) w := by kernel_rfl

def zeroV : Value := .agg #[.int .i64 0, .int .i64 0, .int .i64 0, .slice none 0 0]

theorem look_some (h : NAt w p m L last) {k : Int} (hk : (Lit.int .i64 k).wf = true) {q : Pk} (hf : findP L k = some q) :
    (Instr.lookup 54 (.map (some m)) (.int .i64 k) true).run Try.prog w = .ok (.tuple #[q.val, .bool true]) w := by
  obtain ⟨v, ps, h1, h2⟩ := h.own.look_ok law3 Try.underlying54 (zero31 w) (zd := .held zeroV) (zp := []) rfl (key_ok hk)
  rw [mapOf_has, hf] at h1
  rw [mapOf_at, hf] at h2
  simp [RV] at h2
  rw [h1, h2.1]
  rfl

theorem look_one (h : NAt w p m L last) {k : Int} (hk : (Lit.int .i64 k).wf = true) {q : Pk} (hf : findP L k = some q) :
    (Instr.lookup 54 (.map (some m)) (.int .i64 k) false).run Try.prog w = .ok q.val w := by
  obtain ⟨v, ps, h1, h2⟩ := h.own.lookup law3 Try.underlying54 (zero31 w) (zd := .held zeroV) (zp := []) rfl (key_ok hk)
  rw [mapOf_at, hf] at h2
  simp [RV] at h2
  rw [h1, h2.1]

theorem look_none (h : NAt w p m L last) {k : Int} (hk : (Lit.int .i64 k).wf = true) (hf : findP L k = none) :
    (Instr.lookup 54 (.map (some m)) (.int .i64 k) true).run Try.prog w = .ok (.tuple #[zeroV, .bool false]) w := by
  obtain ⟨v, ps, h1, h2⟩ := h.own.look_ok law3 Try.underlying54 (zero31 w) (zd := .held zeroV) (zp := []) rfl (key_ok hk)
  rw [mapOf_has, hf] at h1
  rw [mapOf_at, hf] at h2
  simp [RV] at h2
  rw [h1, h2.1]
  rfl
end

end Go.Proofs.Ytgjjgfppolmkoaa
