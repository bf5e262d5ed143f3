/- Qualities and jobs: plain and in memory; how many cores run. -/
import Derived.Test.YtflapjehkgefdaaGreatBelow
import Derived.Deep.MidRow
import Derived.Laws.Rows
import Derived.Laws.Tables
namespace Go.Proofs.YtflapjehkgefdaaGreat
open Go.RowKit

section Flat
variable {α : Type} (f : α → List Value) (m : Nat)

theorem flat_len (hf : ∀ x, (f x).length = m) (C : List α) : (C.flatMap f).length = C.length * m := by
  induction C with
  | nil => simp
  | cons q r ih => rw [List.flatMap_cons, List.length_append, ih, hf, List.length_cons, Nat.succ_mul]; omega

theorem flat_get (hf : ∀ x, (f x).length = m) : ∀ (Q : List α) (i r : Nat) (hi : i < Q.length) (_ : r < m), (Q.flatMap f)[i * m + r]? = (f Q[i])[r]?
  | [], i, r, hi, _ => by simp at hi
  | q :: t, 0, r, hi, hr => by
    simp only [List.flatMap_cons, Nat.zero_mul, Nat.zero_add, List.getElem_cons_zero]
    rw [List.getElem?_append_left (by rw [hf]; omega)]
  | q :: t, i + 1, r, hi, hr => by
    simp only [List.flatMap_cons, List.getElem_cons_succ]
    rw [List.getElem?_append_right (by rw [hf, Nat.succ_mul]; omega)]
    have := flat_get hf t i r (by simpa using hi) hr
    rw [← this]
    congr 1
    rw [hf, Nat.succ_mul]; omega

theorem flat_ne (hf : ∀ x, (f x).length = m) (hm : 0 < m) {R : List α} (h : 0 < R.length) : R.flatMap f ≠ [] := by
  intro e
  have h1 := flat_len f m hf R
  rw [e, List.length_nil] at h1
  have := Nat.mul_pos h hm
  omega

theorem flat_cell (hf : ∀ x, (f x).length = m) (hm : 0 < m) {w : World} {b o : Nat} {C : List α} (h : CAt w (some ⟨b, o, none⟩) (C.flatMap f)) {i : Nat} (hi : i < C.length) (r : Nat) (hr : r < m) :
    w.cell? ⟨b, o + i * m + r, none⟩ = some ((f C[i])[r]'(by rw [hf]; exact hr)) := by
  obtain ⟨b', o', e, hc⟩ := h (flat_ne f m hf hm (by omega))
  cases e
  have hle : (i + 1) * m ≤ C.length * m := Nat.mul_le_mul_right _ hi
  rw [Nat.succ_mul] at hle
  have hlt : i * m + r < (C.flatMap f).length := by rw [flat_len f m hf]; omega
  have h1 := hc _ hlt
  rw [← Nat.add_assoc] at h1
  rw [h1]
  have := flat_get f m hf C i r hi hr
  rw [List.getElem?_eq_getElem hlt, List.getElem?_eq_getElem (by rw [hf]; exact hr)] at this
  exact this

theorem flat_place (hf : ∀ x, (f x).length = m) (hm : 0 < m) {w : World} {a : Option Addr} {C : List α} (h : CAt w a (C.flatMap f)) (h0 : 0 < C.length) : ∃ b o, a = some ⟨b, o, none⟩ := by
  obtain ⟨b, o, e, _⟩ := h (flat_ne f m hf hm h0)
  exact ⟨b, o, e⟩

theorem flat_take (hf : ∀ x, (f x).length = m) (hm : 0 < m) {w : World} {a : Option Addr} {C : List α} (h : CAt w a (C.flatMap f)) (k : Nat) : CAt w a ((C.take k).flatMap f) := by
  intro hne
  have hpos : 0 < C.length := by
    rcases Nat.eq_zero_or_pos C.length with h0 | h0
    · exact absurd (by rw [List.eq_nil_of_length_eq_zero h0]; simp) hne
    · exact h0
  obtain ⟨b, o, e, hc⟩ := h (flat_ne f m hf hm hpos)
  refine ⟨b, o, e, fun i hi => ?_⟩
  have hsp : C.flatMap f = (C.take k).flatMap f ++ (C.drop k).flatMap f := by rw [← List.flatMap_append, List.take_append_drop]
  have hi2 : i < (C.flatMap f).length := by rw [hsp, List.length_append]; omega
  rw [hc i hi2]
  congr 1
  simp only [hsp]
  rw [List.getElem_append_left hi]

theorem flat_set (hf : ∀ x, (f x).length = m) {L : List α} {i : Nat} (hi : i < L.length) (x : α) : ∀ r v, r < m → (f L[i]).set r v = f x → (L.flatMap f).set (i * m + r) v = (L.set i x).flatMap f := by
  intro r v hr he
  induction L generalizing i with
  | nil => simp at hi
  | cons q t ih =>
    cases i with
    | zero =>
      simp only [List.flatMap_cons, Nat.zero_mul, Nat.zero_add, List.set_cons_zero, List.getElem_cons_zero] at he ⊢
      rw [List.set_append_left _ _ (by rw [hf]; omega), he]
    | succ k =>
      simp only [List.flatMap_cons, List.set_cons_succ, List.getElem_cons_succ] at he ⊢
      rw [List.set_append_right _ _ (by rw [hf, Nat.succ_mul]; omega)]
      have := ih (by simpa using hi) he
      rw [← this]
      congr 2
      rw [hf, Nat.succ_mul]; omega
end Flat

/-- The place of the first element of that name. -/
def ki {α : Type} (key : α → ByteArray) : List α → ByteArray → Option Nat
  | [], _ => none
  | a :: r, n => if key a = n then some 0 else (ki key r n).map (· + 1)

theorem ki_is {α : Type} (key : α → ByteArray) (d : α) : ∀ (L : List α) (n : ByteArray) (i : Nat), ki key L n = some i ↔ i < L.length ∧ key (L.getD i d) = n ∧ ∀ j, j < i → key (L.getD j d) ≠ n
  | [], n, i => by simp [ki]
  | a :: r, n, i => by
    by_cases h : key a = n
    · simp only [ki, if_pos h, Option.some.injEq]
      constructor
      · intro e; subst e
        exact ⟨by simp, by simpa using h, fun j hj => by omega⟩
      · rintro ⟨_, _, h3⟩
        rcases Nat.eq_zero_or_pos i with h0 | h0
        · exact h0.symm
        · exact absurd (by simpa using h) (h3 0 h0)
    · simp only [ki, if_neg h, Option.map_eq_some_iff]
      constructor
      · rintro ⟨k, hk, rfl⟩
        obtain ⟨h1, h2, h3⟩ := (ki_is key d r n k).1 hk
        refine ⟨by simpa using h1, by simpa using h2, fun j hj => ?_⟩
        cases j with
        | zero => simpa using h
        | succ j => simpa using h3 j (by omega)
      · rintro ⟨h1, h2, h3⟩
        cases i with
        | zero => exact absurd (by simpa using h2) h
        | succ k =>
          refine ⟨k, (ki_is key d r n k).2 ⟨by simpa using h1, by simpa using h2, fun j hj => ?_⟩, rfl⟩
          simpa using h3 (j + 1) (by omega)

theorem ki_no {α : Type} (key : α → ByteArray) (d : α) : ∀ (L : List α) (n : ByteArray), ki key L n = none ↔ ∀ j, j < L.length → key (L.getD j d) ≠ n
  | [], n => by simp [ki]
  | a :: r, n => by
    by_cases h : key a = n
    · simp only [ki, if_pos h]
      constructor
      · intro e; cases e
      · intro h1; exact absurd (by simpa using h) (h1 0 (by simp))
    · simp only [ki, if_neg h, Option.map_eq_none_iff, ki_no key d r n]
      constructor
      · intro h1 j hj
        cases j with
        | zero => simpa using h
        | succ j => simpa using h1 j (by simpa using hj)
      · intro h1 j hj
        simpa using h1 (j + 1) (by simpa using hj)

/-- A quality: its name, priority, limit of cores, limit of jobs. -/
abbrev Qu := ByteArray × Int × Int × Int
def q0 : Qu := (ByteArray.empty, 0, 0, 0)
def quAt (L : List Qu) (i : Nat) : Qu := L.getD i q0
theorem quAt_eq {L : List Qu} {i : Nat} (h : i < L.length) : L[i] = quAt L i := by simp [quAt, h]
theorem quAt_take {L : List Qu} {i k : Nat} (h : i < k) : quAt (L.take k) i = quAt L i := by
  simp only [quAt, List.getD_eq_getElem?_getD, List.getElem?_take, if_pos h]
def qi (L : List Qu) (n : ByteArray) : Option Nat := ki (·.1) L n
theorem qi_is (L : List Qu) (n : ByteArray) (i : Nat) : qi L n = some i ↔ i < L.length ∧ (quAt L i).1 = n ∧ ∀ j, j < i → (quAt L j).1 ≠ n := ki_is _ q0 L n i
theorem qi_no (L : List Qu) (n : ByteArray) : qi L n = none ↔ ∀ j, j < L.length → (quAt L j).1 ≠ n := ki_no _ q0 L n
theorem qi_lt {L : List Qu} {n : ByteArray} {i : Nat} (h : qi L n = some i) : i < L.length := ((qi_is L n i).1 h).1
theorem qi_name {L : List Qu} {n : ByteArray} {i : Nat} (h : qi L n = some i) : (quAt L i).1 = n := ((qi_is L n i).1 h).2.1

def qualB (x : Qu) : Bool := nameB x.1 && decide (0 ≤ x.2.1) && decide (x.2.1 ≤ 1000) && limB x.2.2.1 && limB x.2.2.2
def qrightB (L : List Qu) : Bool := decide (1 ≤ L.length ∧ L.length ≤ 8 ∧ ∀ i, i < L.length → qi L (quAt L i).1 = some i ∧ qualB (quAt L i) = true)
theorem qright_is {L : List Qu} : qrightB L = true ↔ 1 ≤ L.length ∧ L.length ≤ 8 ∧ ∀ i, i < L.length → qi L (quAt L i).1 = some i ∧ qualB (quAt L i) = true := by
  unfold qrightB; rw [decide_eq_true_eq]
def confB (A : List Acc) (Q : List Qu) : Bool := rightB A && qrightB Q
theorem conf_is {A : List Acc} {Q : List Qu} : confB A Q = true ↔ rightB A = true ∧ qrightB Q = true := by unfold confB; rw [Bool.and_eq_true]

def qc (x : Qu) : List Value := [.string x.1, .int .i64 x.2.1, .int .i64 x.2.2.1, .int .i64 x.2.2.2]
theorem qc_len (x : Qu) : (qc x).length = 4 := rfl
def QAt (w : World) (a : Option Addr) (L : List Qu) : Prop := CAt w a (L.flatMap qc)
theorem QAt.below {w w' : World} {a : Option Addr} {C : List Qu} (h : QAt w a C) (hb : Below w.heap.size w w') : QAt w' a C := CAt.below h hb
theorem QAt.nil (w : World) (a : Option Addr) : QAt w a [] := CAt.nil w a
theorem QAt.place {w : World} {a : Option Addr} {C : List Qu} (h : QAt w a C) (h0 : 0 < C.length) : ∃ b o, a = some ⟨b, o, none⟩ := flat_place qc 4 qc_len (by omega) h h0
theorem QAt.take {w : World} {a : Option Addr} {C : List Qu} (h : QAt w a C) (k : Nat) : QAt w a (C.take k) := flat_take qc 4 qc_len (by omega) h k
theorem QAt.one {w : World} {b o : Nat} {C : List Qu} (h : QAt w (some ⟨b, o, none⟩) C) {i : Nat} (hi : i < C.length) :
    w.cell? ⟨b, o + i * 4, none⟩ = some (.string (quAt C i).1) ∧ w.cell? ⟨b, o + i * 4 + 1, none⟩ = some (.int .i64 (quAt C i).2.1) ∧ w.cell? ⟨b, o + i * 4 + 2, none⟩ = some (.int .i64 (quAt C i).2.2.1) ∧ w.cell? ⟨b, o + i * 4 + 3, none⟩ = some (.int .i64 (quAt C i).2.2.2) := by
  have k := fun r hr => flat_cell qc 4 qc_len (by omega) h hi r hr
  have k0 := k 0 (by omega)
  have k1 := k 1 (by omega)
  have k2 := k 2 (by omega)
  have k3 := k 3 (by omega)
  rw [quAt_eq hi] at k0 k1 k2 k3
  exact ⟨k0, k1, k2, k3⟩

/-- What a job asks for. -/
structure Spc where
  user : ByteArray
  acct : ByteArray
  qos : ByteArray
  part : ByteArray
  nodes : Int
  cores : Int
  lim : Int
  da : Option Addr
  dn : Nat
  dc : Nat

/-- A job. -/
structure Job where
  id : Int
  arr : Int
  idx : Int
  s : Spc
  st : Int
  sub : Int
  beg : Int
  fin : Int
  on : Int
  exit : Int

def spc0 : Spc := ⟨ByteArray.empty, ByteArray.empty, ByteArray.empty, ByteArray.empty, 0, 0, 0, none, 0, 0⟩
def job0 : Job := ⟨0, 0, 0, spc0, 0, 0, 0, 0, 0, 0⟩
def jobAt (L : List Job) (i : Nat) : Job := L.getD i job0
theorem jobAt_eq {L : List Job} {i : Nat} (h : i < L.length) : L[i] = jobAt L i := by simp [jobAt, h]

def sc (x : Spc) : List Value := [.string x.user, .string x.acct, .string x.qos, .string x.part, .int .i64 x.nodes, .int .i64 x.cores, .int .i64 x.lim, .slice x.da x.dn x.dc]
theorem sc_len (x : Spc) : (sc x).length = 8 := rfl
def jc (x : Job) : List Value := [.int .i64 x.id, .int .i64 x.arr, .int .i64 x.idx, .string x.s.user, .string x.s.acct, .string x.s.qos, .string x.s.part, .int .i64 x.s.nodes, .int .i64 x.s.cores, .int .i64 x.s.lim, .slice x.s.da x.s.dn x.s.dc,
  .int .u8 x.st, .int .i64 x.sub, .int .i64 x.beg, .int .i64 x.fin, .int .u32 x.on, .int .i64 x.exit]
theorem jc_len (x : Job) : (jc x).length = 17 := rfl

def SpAt (w : World) (a : Option Addr) (L : List Spc) : Prop := CAt w a (L.flatMap sc)
def JAt (w : World) (a : Option Addr) (L : List Job) : Prop := CAt w a (L.flatMap jc)
theorem JAt.below {w w' : World} {a : Option Addr} {C : List Job} (h : JAt w a C) (hb : Below w.heap.size w w') : JAt w' a C := CAt.below h hb
theorem JAt.nil (w : World) (a : Option Addr) : JAt w a [] := CAt.nil w a
theorem JAt.place {w : World} {a : Option Addr} {C : List Job} (h : JAt w a C) (h0 : 0 < C.length) : ∃ b o, a = some ⟨b, o, none⟩ := flat_place jc 17 jc_len (by omega) h h0
theorem JAt.cell {w : World} {b o : Nat} {C : List Job} (h : JAt w (some ⟨b, o, none⟩) C) {i : Nat} (hi : i < C.length) (r : Nat) (hr : r < 17) : w.cell? ⟨b, o + i * 17 + r, none⟩ = some ((jc (jobAt C i))[r]'(by rw [jc_len]; exact hr)) := by
  have := flat_cell jc 17 jc_len (by omega) h hi r hr
  simp only [jobAt_eq hi] at this
  exact this
theorem JAt.one {w : World} {b o : Nat} {C : List Job} (h : JAt w (some ⟨b, o, none⟩) C) {i : Nat} (hi : i < C.length) :
    w.cell? ⟨b, o + i * 17, none⟩ = some (.int .i64 (jobAt C i).id) ∧ w.cell? ⟨b, o + i * 17 + 1, none⟩ = some (.int .i64 (jobAt C i).arr) ∧ w.cell? ⟨b, o + i * 17 + 2, none⟩ = some (.int .i64 (jobAt C i).idx) ∧ w.cell? ⟨b, o + i * 17 + 3, none⟩ = some (.string (jobAt C i).s.user) ∧ w.cell? ⟨b, o + i * 17 + 4, none⟩ = some (.string (jobAt C i).s.acct) ∧ w.cell? ⟨b, o + i * 17 + 5, none⟩ = some (.string (jobAt C i).s.qos) ∧ w.cell? ⟨b, o + i * 17 + 6, none⟩ = some (.string (jobAt C i).s.part) ∧ w.cell? ⟨b, o + i * 17 + 7, none⟩ = some (.int .i64 (jobAt C i).s.nodes) ∧ w.cell? ⟨b, o + i * 17 + 8, none⟩ = some (.int .i64 (jobAt C i).s.cores) ∧ w.cell? ⟨b, o + i * 17 + 9, none⟩ = some (.int .i64 (jobAt C i).s.lim) ∧ w.cell? ⟨b, o + i * 17 + 10, none⟩ = some (.slice (jobAt C i).s.da (jobAt C i).s.dn (jobAt C i).s.dc) ∧ w.cell? ⟨b, o + i * 17 + 11, none⟩ = some (.int .u8 (jobAt C i).st) ∧ w.cell? ⟨b, o + i * 17 + 12, none⟩ = some (.int .i64 (jobAt C i).sub) ∧ w.cell? ⟨b, o + i * 17 + 13, none⟩ = some (.int .i64 (jobAt C i).beg) ∧ w.cell? ⟨b, o + i * 17 + 14, none⟩ = some (.int .i64 (jobAt C i).fin) ∧ w.cell? ⟨b, o + i * 17 + 15, none⟩ = some (.int .u32 (jobAt C i).on) ∧ w.cell? ⟨b, o + i * 17 + 16, none⟩ = some (.int .i64 (jobAt C i).exit) :=
  ⟨h.cell hi 0 (by omega), h.cell hi 1 (by omega), h.cell hi 2 (by omega), h.cell hi 3 (by omega), h.cell hi 4 (by omega), h.cell hi 5 (by omega), h.cell hi 6 (by omega), h.cell hi 7 (by omega), h.cell hi 8 (by omega), h.cell hi 9 (by omega), h.cell hi 10 (by omega), h.cell hi 11 (by omega), h.cell hi 12 (by omega), h.cell hi 13 (by omega), h.cell hi 14 (by omega), h.cell hi 15 (by omega), h.cell hi 16 (by omega)⟩

theorem JAt.range {w : World} {b o : Nat} {C : List Job} (h : JAt w (some ⟨b, o, none⟩) C) {i : Nat} (hi : i < C.length) : w.rangeAt b (o + i * 17) (jc (jobAt C i)) := by
  intro r v hv
  have hr : r < 17 := by
    rcases Nat.lt_or_ge r 17 with h1 | h1
    · exact h1
    · rw [List.getElem?_eq_none (by rw [jc_len]; exact h1)] at hv; cases hv
  rw [h.cell hi r hr]
  rw [List.getElem?_eq_getElem (by rw [jc_len]; exact hr)] at hv
  exact hv

/-- A job's cores, and one more job counted. -/
def cor (s : Spc) : Int := wrap64 (s.nodes * s.cores)
def cst (p : Spc → Bool) (x : Int × Nat) (j : Job) : Int × Nat := if j.st = 2 ∧ p j.s = true then (wrap64 (x.1 + cor j.s), x.2 + 1) else x
/-- The cores, and how many, of all jobs that run and of which p tells true. -/
def cntP (p : Spc → Bool) (L : List Job) : Int × Nat := L.foldl (cst p) (0, 0)

theorem cnt_zero (p : Spc → Bool) (L : List Job) : cntP p (L.take 0) = (0, 0) := rfl
theorem cnt_next {p : Spc → Bool} {L : List Job} {j : Nat} (h : j < L.length) : cntP p (L.take (j + 1)) = cst p (cntP p (L.take j)) (jobAt L j) := by
  unfold cntP
  rw [take_more h, List.foldl_append, jobAt_eq h]; rfl
theorem cnt_all (p : Spc → Bool) (L : List Job) : cntP p (L.take L.length) = cntP p L := by rw [List.take_length]
theorem cst_yes {p : Spc → Bool} {x : Int × Nat} {j : Job} (h : j.st = 2) (hp : p j.s = true) : cst p x j = (wrap64 (x.1 + cor j.s), x.2 + 1) := if_pos ⟨h, hp⟩
theorem cst_no {p : Spc → Bool} {x : Int × Nat} {j : Job} (h : ¬ (j.st = 2 ∧ p j.s = true)) : cst p x j = x := if_neg h
theorem cnt_le (p : Spc → Bool) (L : List Job) : ∀ k, (cntP p (L.take k)).2 ≤ k := by
  intro k
  induction k with
  | zero => simp [cntP]
  | succ k ih =>
    rcases Nat.lt_or_ge k L.length with h | h
    · rw [cnt_next h]
      unfold cst
      split
      · simp only []; omega
      · omega
    · rw [List.take_of_length_le (by omega)] at ih ⊢
      omega
theorem cnt_len (p : Spc → Bool) (L : List Job) : (cntP p L).2 ≤ L.length := by
  have := cnt_le p L L.length
  rwa [cnt_all] at this

end Go.Proofs.YtflapjehkgefdaaGreat
