/- Copies of lists of jobs and of partitions. -/
import Derived.Test.YtomdghodbkhkaaaGreatDoorCp
import Derived.Great.BuildSlice
namespace Go.Proofs.YtomdghodbkhkaaaGreatDoor
open Go.RowKit
set_option linter.unusedVariables false

/-- A slice literal of one struct. -/
theorem wpList_one {ops : Array Oper} {rest : List Oper} {o : Oper} {a : Act} {w : World} {Q : Exit → Act → World → Prop} (hg : o.guard = none) (t e : TypeId) (x : Operand) (ho : o.op = .buildSlice t 1 #[(0, x)])
    (cs : Array Value) (s : Nat) (ie : TypeInfo) (z : Value) (hu : Tryz.prog.underlying t = some (.slice e)) (hie : Tryz.prog.info? e = some ie) (hz : ie.zero = some z) (hsz : ie.size = s) (hs : 0 < s) (hs2 : s ≤ 1000) (hx : a.eval x = .agg cs) (hc : cs.size = s)
    (h : wpList Tryz.prog ops Q rest (a.put o.dst (.slice (some ⟨w.heap.size, 0, none⟩) 1 1)) (w.alloc (.cells cs e))) : wpList Tryz.prog ops Q (o :: rest) a w := by
  refine wpList_buildSlice hg t e 1 _ ho cs ie z hu hie hz (by rw [hsz]; omega) (by rw [hsz]; omega) ?_ h
  have e1 : ((#[(0, x)] : Array (Nat × Operand)).map fun (i, x) => (i, a.eval x)).toList = (([Value.agg cs].zipIdx 0).map fun x => (x.2, x.1)) := by simp [hx]
  rw [e1, hsz]
  have := Great.fill_whole hs [Value.agg cs] ((Array.range (1 * s)).map (z.cells[· % z.cells.size]!)) (fun v hv => by rw [List.mem_singleton.1 hv]; exact hc) (by simp)
  rw [this]
  simp [Value.cells]
theorem owns_blk {w : World} {base e size n m c : Nat} {y : Addr} {xs : List Value} (h : w.ownsRow base e size (.slice (some y) m c) n xs) : base ≤ y.block ∧ y.block < w.heap.size := by
  rcases h.2 with ⟨hv, _⟩ | ⟨g, cap, cur, hv, hb, hg, _⟩
  · simp at hv
  · simp only [Value.slice.injEq, Option.some.injEq] at hv
    rw [hv.1]
    exact ⟨hb, (Array.getElem?_eq_some_iff.1 hg).1⟩
theorem owns_lt {w : World} {base e size n g : Nat} {v : Value} {xs : List Value} (h : w.ownsRow base e size v n xs) (hg : v.ownBlock = some g) : g < w.heap.size := by
  obtain ⟨a, c, rfl, _⟩ := owns_form h
  cases a with
  | none => simp [Value.ownBlock] at hg
  | some y => simp [Value.ownBlock] at hg; rw [← hg]; exact (owns_blk h).2
theorem ownBlock_some (y : Addr) (n c : Nat) : (Value.slice (some y) n c).ownBlock = some y.block := rfl
theorem info53 : (Tryz.prog.info? 46).map (fun i => (i.zero, i.size, i.bytes)) = some (some (.agg #[.int .i64 0, .int .i64 0, .int .i64 0, .string ByteArray.empty, .string ByteArray.empty, .string ByteArray.empty, .string ByteArray.empty, .int .i64 0, .int .i64 0, .int .i64 0, .slice none 0 0, .int .u8 0, .int .i64 0, .int .i64 0, .int .i64 0, .int .u32 0, .int .i64 0]), 17, 184) := by kernel_rfl
theorem jc_one (J : Job) : ∀ u ∈ jc J, u.oneCell' = true := by
  intro u hu
  have := Array.all_eq_true_iff_forall_mem.1 (jc_all J) u (by simpa using hu)
  exact this
/-- A row of the call's own, of Job that point at rows of the call's own. -/
structure JO (w : World) (base : Nat) (v : Value) (M : List (Job × List Dp)) : Prop where
  own : w.ownsRow base 46 17 v M.length ((M.map (·.1)).flatMap jc)
  dep : ∀ p ∈ M, DOwn w base (.slice p.1.s.da p.1.s.dn p.1.s.dc) p.2
  off : ∀ p ∈ M, ∀ y, p.1.s.da = some y → v.ownBlock ≠ some y.block

theorem JO.nil (w : World) (base : Nat) : JO w base (.slice none 0 0) [] := ⟨World.ownsRow_nil _ _ _ _, (fun x h => by cases h), (fun x h => by cases h)⟩
theorem JO.below {w w' : World} {base : Nat} {v : Value} {M : List (Job × List Dp)} (h : JO w base v M) (hb : Below w.heap.size w w') : JO w' base v M := ⟨owns_below h.own hb, fun p hp => (h.dep p hp).below hb, h.off⟩

theorem JO.more {w w1 : World} {base n : Nat} {v v' : Value} {M : List (Job × List Dp)} {x : Job} {D : List Dp} (h : JO w base v M) (hn : M.length = n) (hx : DOwn w base (.slice x.s.da x.s.dn x.s.dc) D) (hoff : ∀ y, x.s.da = some y → v.ownBlock ≠ some y.block)
    (hg : w.grownBy w1 v.ownBlock) (ho : w1.ownsRow base 46 17 v' (n + 1) ((M.map (·.1)).flatMap jc ++ jc x)) (hv : v'.ownBlock = v.ownBlock ∨ v'.ownBlock = some w.heap.size) : JO w1 base v' (M ++ [(x, D)]) := by
  have kg := Kp.grown hg
  have all : ∀ z ∈ M ++ [(x, D)], DOwn w base (.slice z.1.s.da z.1.s.dn z.1.s.dc) z.2 ∧ (∀ y, z.1.s.da = some y → v.ownBlock ≠ some y.block) := by
    intro z hz
    rcases List.mem_append.1 hz with h1 | h1
    · exact ⟨h.dep z h1, h.off z h1⟩
    · rw [List.mem_singleton.1 h1]; exact ⟨hx, hoff⟩
  refine ⟨?_, fun z hz => ?_, fun z hz y hy => ?_⟩
  · rw [List.length_append, hn, List.map_append, List.flatMap_append]
    simpa using ho
  · obtain ⟨h1, h2⟩ := all z hz
    refine owns_kp h1 kg fun k hk hs => ?_
    cases ha : z.1.s.da with
    | none => rw [ha] at hk; simp [Value.ownBlock] at hk
    | some y =>
      rw [ha, ownBlock_some] at hk
      exact h2 y ha (by rw [hs, ← hk])
  · obtain ⟨h1, h2⟩ := all z hz
    rcases hv with e | e
    · rw [e]; exact h2 y hy
    · rw [e]
      intro he
      rw [hy] at h1
      have := (owns_blk h1).2
      simp only [Option.some.injEq] at he
      omega

/-- The same, but for where what they point at lies. -/
def ReJ : List (Job × List Dp) → List (Job × List Dp) → Prop
  | [], [] => True
  | p :: r, q :: t => (∃ x y, q.1 = p.1.re x y) ∧ q.2 = p.2 ∧ ReJ r t
  | _, _ => False
theorem reJ_len : ∀ {A B : List (Job × List Dp)}, ReJ A B → B.length = A.length
  | [], [], _ => rfl
  | p :: r, q :: t, h => by rw [List.length_cons, List.length_cons, reJ_len h.2.2]
  | [], q :: t, h => by cases h
  | p :: r, [], h => by cases h
theorem reJ_snoc : ∀ {A B : List (Job × List Dp)} {p q : Job × List Dp}, ReJ A B → (∃ x y, q.1 = p.1.re x y) → q.2 = p.2 → ReJ (A ++ [p]) (B ++ [q])
  | [], [], p, q, _, h1, h2 => ⟨h1, h2, trivial⟩
  | _ :: r, _ :: t, p, q, h, h1, h2 => ⟨h.1, h.2.1, reJ_snoc h.2.2 h1 h2⟩
  | [], q :: t, _, _, h, _, _ => by cases h
  | p :: r, [], _, _, h, _, _ => by cases h

/-- What is handed in: each with what it points at. -/
def JIn (w : World) (M : List (Job × List Dp)) : Prop := ∀ p ∈ M, p.2.length = p.1.s.dn ∧ DAt w p.1.s.da p.2 ∧ p.1.s.dn * 16 ≤ 140737488355328
theorem JIn.below {w w' : World} {M : List (Job × List Dp)} (h : JIn w M) (hb : Below w.heap.size w w') : JIn w' M := fun p hp => ⟨(h p hp).1, (h p hp).2.1.below hb, (h p hp).2.2⟩

theorem JO.jat {w : World} {base n c : Nat} {a : Option Addr} {M : List (Job × List Dp)} (h : JO w base (.slice a n c) M) : JAt w a (M.map (·.1)) := owns_cat h.own
end Go.Proofs.YtomdghodbkhkaaaGreatDoor
