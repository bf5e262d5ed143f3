/- The document's Look, whole; what its Done needs. -/
import Derived.Test.YthjggjjocfbjcaaTellM
import Derived.Test.YthjggjjocfbjcaaTellN
namespace Go.Proofs.Ythjggjjocfbjcaa
open Go.RowKit

theorem get_isSome {L : List CV} {cl : Int} {lo : Int} (hu : Up lo (L.map CV.flat)) (hy : ∃ x ∈ L, x.id = cl) : (getG (L.map CV.flat) cl).isSome = true := by
  obtain ⟨x, hx, rfl⟩ := hy
  have := up_get hu (List.mem_map.2 ⟨x, hx, rfl⟩)
  show (getG (L.map CV.flat) x.flat.1).isSome = true
  rw [this]
  rfl

theorem get_isNone {L : List CV} {cl : Int} (hno : ∀ x ∈ L, x.id ≠ cl) : getG (L.map CV.flat) cl = none := by
  cases hg : getG (L.map CV.flat) cl with
  | none => rfl
  | some v =>
    obtain ⟨x, hx, he⟩ := List.mem_map.1 (get_mem hg)
    exact absurd (congrArg (fun p : PC => p.1) he) (hno x hx)

theorem lookr_any (a : Option Addr) (n c : Nat) (L : List CV) (cl r ak : Int) (w : World) (hL : L.length = n) (h : LAt w 0 a L) (hn : n ≤ 9000000000000000000) :
    Calls Try.prog 18 #[.slice a n c, .int .i64 cl, .int .i64 r, .int .i64 ak] w (RLookPost (lookP (L.map CV.flat) cl r ak) w) := by
  cases hb : lookBad (L.map CV.flat) cl r ak with
  | true =>
    have e : lookP (L.map CV.flat) cl r ak = ([], 0, [], 2) := by unfold lookP; rw [hb]; rfl
    rw [e]
    exact lookr_bad a n c 0 L cl r ak w hL h hn hb
  | false =>
    unfold lookBad at hb
    simp only [Bool.or_eq_false_iff, Bool.not_eq_false', decide_eq_false_iff_not] at hb
    obtain ⟨⟨⟨⟨hr, hc⟩, hq⟩, h0⟩, h1⟩ := hb
    have hR := (right_iff _).1 hr
    have hc' := num_true hc
    have hq' := num_true hq
    have ha : 0 ≤ ak ∧ ak < r := by omega
    rw [look_eq _ cl r ak hR hc' hq' ha]
    by_cases hy : ∃ x ∈ L, x.id = cl
    · rw [if_pos (.inl (get_isSome hR.up hy))]
      by_cases hm : (curC (L.map CV.flat) cl).1 < ak
      · exact lookr_old_ak a n c L cl r ak w hL h hR hc' hq' ha hy hm
      · exact lookr_old_fl a n c L cl r ak w hL h hR hc' hq' ha hy (by omega)
    · have hno : ∀ x ∈ L, x.id ≠ cl := fun x hx e => hy ⟨x, hx, e⟩
      have hg := get_isNone hno
      have hnew := lookr_new a n c L cl r ak w hL h hR hc' hq' ha hno
      have hcur : curC (L.map CV.flat) cl = (0, []) := by unfold curC; rw [hg]; rfl
      have hset : setC (0, []) ak = (max 0 ak, []) := rfl
      have hjud : judC (max 0 ak, []) r = (1, []) := by
        unfold judC
        rw [if_neg (show ¬ r ≤ max 0 ak by omega)]
        rfl
      rw [hcur, hset, hjud, hg, List.length_map, hL]
      by_cases hf : n < 16
      · rw [if_pos (.inr hf)]
        rw [if_pos hf] at hnew
        exact hnew
      · rw [if_neg (by simp; omega)]
        rw [if_neg hf] at hnew
        exact hnew

/-- The answer of the document's Done lies in memory as the plain one R says. -/
def RDonePost (R : List PC × Int) (w : World) (e : Ending) (w' : World) : Prop :=
  ∃ a' c' L', e = .returned (.tuple #[.slice a' R.1.length c', .int .i64 R.2]) ∧ L'.map CV.flat = R.1 ∧ LAt w' 0 a' L' ∧ Below w.heap.size w w'

theorem doner_none (n : Int) (w w' : World) (hb : Below w.heap.size w w') : RDonePost ([], n) w (.returned (.tuple #[.slice none 0 0, .int .i64 n])) w' :=
  ⟨none, 0, [], rfl, rfl, LAt.nil _ _, hb⟩

/-- One more put among what is kept, as the loop goes. -/
def pgo (X : PK) : Bool → List PK → List PK
  | b, [] => if b then [] else [X]
  | b, y :: r => (if !b && decide (X.1 < y.1) then [X] else []) ++ (y :: pgo X (b || decide (X.1 < y.1)) r)

theorem pgo_true (X : PK) : ∀ l : List PK, pgo X true l = l
  | [] => rfl
  | y :: r => by simp [pgo, pgo_true X r]

theorem pgo_put (X : PK) : ∀ l : List PK, (∀ y ∈ l, y.1 ≠ X.1) → pgo X false l = putG l X
  | [], _ => rfl
  | y :: r, h => by
    have h0 := h y (by simp)
    simp only [pgo, putG, Bool.not_false, Bool.true_and, Bool.false_or]
    by_cases h1 : X.1 < y.1
    · rw [decide_eq_true h1, if_pos (show X.1 ≤ y.1 by omega), if_neg h0, pgo_true]
      simp
    · rw [decide_eq_false h1, if_neg (show ¬ X.1 ≤ y.1 by omega), pgo_put X r (fun z hz => h z (by simp [hz]))]
      simp

theorem pg_step {X : PK} {ks : List KV} {t : Nat} (ht : t < ks.length) (b : Bool) : pgo X b ((ks.drop t).map KV.flat) = (if !b && decide (X.1 < ks[t].num) then [X] else []) ++ (ks[t].flat :: pgo X (b || decide (X.1 < ks[t].num)) ((ks.drop (t + 1)).map KV.flat)) := by
  rw [List.drop_eq_getElem_cons ht]
  rfl

/-- One more at the end of a row that a block holds. -/
theorem grow36 {ws : World} {base g f : Nat} {x y kv : Value} {Fc : List Value} (hcb : CBlk ws g x y kv) (hrow : ws.ownsRow base 36 2 kv f Fc) (hg : g < base) (hbase : base ≤ ws.heap.size) (num : Int) (ya : Option Addr) (len yc : Nat) (hf : f ≤ 1000) :
    ∃ a7 c7 w7, (Builtin.append_ #[32, 32] 32 #[kv, .slice (some ⟨ws.heap.size, 0, none⟩) 1 1]).run Try.prog (ws.alloc (.cells #[.int .i64 num, .slice ya len yc] 36)) = .ok (.slice a7 (f + 1) c7) w7 ∧ w7.cell? ⟨g, 2, none⟩ = some kv ∧ w7.frozen? ⟨g, 2, none⟩ = false ∧
      CBlk (w7.setCell ⟨g, 2, none⟩ (.slice a7 (f + 1) c7)) g x y (.slice a7 (f + 1) c7) ∧ (w7.setCell ⟨g, 2, none⟩ (.slice a7 (f + 1) c7)).ownsRow base 36 2 (.slice a7 (f + 1) c7) (f + 1) (Fc ++ [.int .i64 num, .slice ya len yc]) ∧
      Kp (fun k => k = g ∨ kv.ownBlock = some k) ws (w7.setCell ⟨g, 2, none⟩ (.slice a7 (f + 1) c7)) ∧ ((Value.slice a7 (f + 1) c7).ownBlock = kv.ownBlock ∨ (Value.slice a7 (f + 1) c7).ownBlock = some (ws.heap.size + 1)) := by
  obtain ⟨i1, hi1, hy0, hy1, hy2⟩ := info_parts info36z
  have bl := below_lit ws (.cells #[.int .i64 num, .slice ya len yc] 36)
  have hr6 := owns_below hrow bl
  have hcl := cat_lit ws 36 [.int .i64 num, .slice ya len yc] _ rfl
  obtain ⟨v7, w7, hrun, hr7, hg7, hv7⟩ := cat_run (ws.alloc (.cells #[.int .i64 num, .slice ya len yc] 36)) base 32 32 36 i1 _ 2 32 Try.underlying32 hi1 hy0 hy1 hy2 rfl (by omega) kv f Fc hr6 (some ⟨ws.heap.size, 0, none⟩) 1 1 [.int .i64 num, .slice ya len yc] rfl hcl (by simp [Value.oneCell']) (by unfold maxLen; omega) (by omega) (Nat.le_trans hbase bl.size)
  obtain ⟨a7, c7, rfl, hcc7⟩ := owns_form hr7
  have hkg := Kp.grown hg7
  have hc7 := (hcb.below bl).kp hkg (fun e => by have := (World.ownsRow.lt hrow g e).1; omega)
  have hks : Kp (fun k => k = g) w7 (w7.setCell ⟨g, 2, none⟩ (.slice a7 (f + 1) c7)) := (Kp.refl (fun k => k = g) w7).setCell (p := ⟨g, 2, none⟩) rfl _
  refine ⟨a7, c7, w7, hrun, hc7.cell2, hc7.free 2, hc7.set2 _, owns_kp hr7 hks (fun k hk e => by have := (World.ownsRow.lt hr7 k hk).1; omega), ?_, ?_⟩
  · exact ((Kp.of_below (S := fun k => k = g ∨ kv.ownBlock = some k) bl).next hkg (fun k _ e => .inr e)).next hks (fun k _ e => .inl e)
  · rcases hv7 with h | h
    · exact .inl h
    · refine .inr (h.trans ?_)
      simp

end Go.Proofs.Ythjggjjocfbjcaa
