/- Frames as plain bytes: what bytes begin with, which frames they hold, that this does not hang on how they are cut, that frames put one behind the other are taken off as these, and that a turned bit is told. -/
import Derived.Test.YtdhafnmahpafaaaPlain
namespace Go.Proofs.Ytdhafnmahpafaaa

/-- A frame: its kind and its body. -/
abbrev Fr := UInt8 × List UInt8

/-- A frame's bytes. -/
def frameOf (f : Fr) : List UInt8 := be 4 (f.2.length + 1) ++ ((f.1 :: f.2) ++ be 4 (crcOf (f.1 :: f.2)))

/-- What bytes may say of a frame: it is cut; it is wrong; it is whole: its kind, its body, how many bytes it takes. -/
abbrev Head := Option (Option (UInt8 × List UInt8 × Nat))

/-- What bytes say of the frame that they begin. -/
def headOf (b : List UInt8) : Head :=
  if b.length < 4 then none
  else if numOf (b.take 4) = 0 ∨ 65536 < numOf (b.take 4) then some none
  else if b.length < numOf (b.take 4) + 8 then none
  else if numOf ((b.drop (4 + numOf (b.take 4))).take 4) = crcOf ((b.drop 4).take (numOf (b.take 4))) then some (some (b.getD 4 0, (b.drop 5).take (numOf (b.take 4) - 1), numOf (b.take 4) + 8))
  else some none

theorem head_size {b : List UInt8} {k : UInt8} {body : List UInt8} {size : Nat} (h : headOf b = some (some (k, body, size))) : 9 ≤ size ∧ size ≤ b.length ∧ size = body.length + 9 := by
  unfold headOf at h
  split at h
  · cases h
  · split at h
    · cases h
    · split at h
      · cases h
      · split at h
        · simp only [Option.some.injEq, Prod.mk.injEq] at h
          obtain ⟨-, rfl, rfl⟩ := h
          refine ⟨by omega, by omega, ?_⟩
          rw [List.length_take, List.length_drop]
          omega
        · cases h

theorem head_nil : headOf [] = none := by unfold headOf; simp

/-- At most so many frames off the front. -/
def takeN : Nat → List UInt8 → List Fr × Option (List UInt8)
  | 0, b => ([], some b)
  | n + 1, b =>
    match headOf b with
    | none => ([], some b)
    | some none => ([], none)
    | some (some (k, body, size)) => ((k, body) :: (takeN n (b.drop size)).1, (takeN n (b.drop size)).2)

/-- The frames that are whole, and what is left (none: broken). -/
def takeOf (b : List UInt8) : List Fr × Option (List UInt8) := takeN b.length b

theorem take_fuel (n : Nat) : ∀ (m : Nat) (b : List UInt8), b.length ≤ n → b.length ≤ m → takeN n b = takeN m b := by
  induction n with
  | zero =>
    intro m b h1 _
    have hb : b = [] := List.eq_nil_of_length_eq_zero (by omega)
    subst hb
    cases m with
    | zero => rfl
    | succ m => simp [takeN, head_nil]
  | succ n ih =>
    intro m b h1 h2
    cases m with
    | zero =>
      have hb : b = [] := List.eq_nil_of_length_eq_zero (by omega)
      subst hb
      simp [takeN, head_nil]
    | succ m =>
      rcases h : headOf b with _ | _ | ⟨k, body, size⟩
      · simp [takeN, h]
      · simp [takeN, h]
      · have hs := head_size h
        simp only [takeN, h]
        rw [ih m (b.drop size) (by rw [List.length_drop]; omega) (by rw [List.length_drop]; omega)]

theorem take_cut {b : List UInt8} (h : headOf b = none) : takeOf b = ([], some b) := by
  unfold takeOf
  cases b.length with
  | zero => rfl
  | succ n => simp [takeN, h]

theorem take_wrong {b : List UInt8} (h : headOf b = some none) : takeOf b = ([], none) := by
  unfold takeOf
  cases hb : b.length with
  | zero =>
    have := List.eq_nil_of_length_eq_zero hb
    subst this
    rw [head_nil] at h
    cases h
  | succ n => simp [takeN, h]

theorem take_whole {b : List UInt8} {k : UInt8} {body : List UInt8} {size : Nat} (h : headOf b = some (some (k, body, size))) : takeOf b = ((k, body) :: (takeOf (b.drop size)).1, (takeOf (b.drop size)).2) := by
  have hs := head_size h
  unfold takeOf
  cases hb : b.length with
  | zero => omega
  | succ n =>
    simp only [takeN, h]
    rw [take_fuel n (b.drop size).length (b.drop size) (by rw [List.length_drop]; omega) (Nat.le_refl _)]

theorem take_nil : takeOf [] = ([], some []) := take_cut head_nil

/-- What a reader does with more bytes. -/
def feedOf : Option (List UInt8) → List UInt8 → List Fr × Option (List UInt8)
  | none, _ => ([], none)
  | some l, b => takeOf (l ++ b)

theorem take4 (a b : List UInt8) (h : ¬ a.length < 4) : (a ++ b).take 4 = a.take 4 := by
  rw [List.take_append_of_le_length (by omega)]

theorem head_wrong {a : List UInt8} (h : headOf a = some none) (b : List UInt8) : headOf (a ++ b) = some none := by
  unfold headOf at h ⊢
  split at h
  · cases h
  · rename_i h4
    have e4 := take4 a b h4
    rw [if_neg (by rw [List.length_append]; omega), e4]
    split at h
    · rename_i h0; rw [if_pos h0]
    · rename_i h0
      rw [if_neg h0]
      split at h
      · cases h
      · rename_i h8
        rw [if_neg (by rw [List.length_append]; omega)]
        split at h
        · cases h
        · rename_i hs
          rw [List.drop_append_of_le_length (by omega), List.take_append_of_le_length (by rw [List.length_drop]; omega), List.drop_append_of_le_length (by omega), List.take_append_of_le_length (by rw [List.length_drop]; omega), if_neg hs]

theorem head_whole {a : List UInt8} {k : UInt8} {body : List UInt8} {size : Nat} (h : headOf a = some (some (k, body, size))) (b : List UInt8) : headOf (a ++ b) = some (some (k, body, size)) := by
  unfold headOf at h ⊢
  split at h
  · cases h
  · rename_i h4
    have e4 := take4 a b h4
    rw [if_neg (by rw [List.length_append]; omega), e4]
    split at h
    · cases h
    · rename_i h0
      rw [if_neg h0]
      split at h
      · cases h
      · rename_i h8
        rw [if_neg (by rw [List.length_append]; omega)]
        split at h
        · rename_i hs
          rw [List.drop_append_of_le_length (by omega), List.take_append_of_le_length (by rw [List.length_drop]; omega), List.drop_append_of_le_length (by omega), List.take_append_of_le_length (by rw [List.length_drop]; omega), if_pos hs, List.drop_append_of_le_length (by omega), List.take_append_of_le_length (by rw [List.length_drop]; omega), ← h]
          congr 1
          simp [List.getElem?_append_left (show 4 < a.length by omega)]
        · cases h

/-- Frames do not hang on how their bytes are cut. -/
theorem take_append (a b : List UInt8) : takeOf (a ++ b) = ((takeOf a).1 ++ (feedOf (takeOf a).2 b).1, (feedOf (takeOf a).2 b).2) := by
  induction hn : a.length using Nat.strongRecOn generalizing a with
  | ind n ih =>
    rcases h : headOf a with _ | _ | ⟨k, body, size⟩
    · rw [take_cut h]; rfl
    · rw [take_wrong h, take_wrong (head_wrong h b)]; rfl
    · have hs := head_size h
      rw [take_whole h, take_whole (head_whole h b), List.drop_append_of_le_length hs.2.1, ih (a.drop size).length (by rw [List.length_drop]; omega) _ rfl]
      rfl

/-- What comes out is no more than what came in. -/
theorem take_len (b : List UInt8) : 9 * (takeOf b).1.length + ((takeOf b).2.getD []).length ≤ b.length := by
  induction hn : b.length using Nat.strongRecOn generalizing b with
  | ind n ih =>
    rcases h : headOf b with _ | _ | ⟨k, body, size⟩
    · rw [take_cut h]; simp; omega
    · rw [take_wrong h]; simp
    · have hs := head_size h
      have := ih (b.drop size).length (by rw [List.length_drop]; omega) _ rfl
      rw [take_whole h]
      rw [List.length_drop] at this
      simp only [List.length_cons]
      omega

theorem frame_len (f : Fr) : (frameOf f).length = f.2.length + 9 := by
  unfold frameOf; simp [be_length]; omega

theorem num_be (n v : Nat) (h : v < 256 ^ n) : numOf (be n v) = v := by rw [numOf_be, Nat.mod_eq_of_lt h]

theorem head_parts (k : UInt8) (body sum rest : List UInt8) (hb : body.length ≤ 65535) (hs : sum.length = 4) :
    headOf (be 4 (body.length + 1) ++ ((k :: body) ++ sum) ++ rest) = if numOf sum = crcOf (k :: body) then some (some (k, body, body.length + 9)) else some none := by
  have e4 : (be 4 (body.length + 1) ++ ((k :: body) ++ sum) ++ rest).take 4 = be 4 (body.length + 1) := by
    rw [List.append_assoc, List.take_append_of_le_length (by rw [be_length]; omega), List.take_of_length_le (by rw [be_length]; omega)]
  have en : numOf (be 4 (body.length + 1)) = body.length + 1 := num_be _ _ (by omega)
  have ed : (be 4 (body.length + 1) ++ ((k :: body) ++ sum) ++ rest).drop 4 = (k :: body) ++ (sum ++ rest) := by
    rw [List.append_assoc, List.drop_left' (be_length _ _), List.append_assoc]
  have hl : (be 4 (body.length + 1) ++ ((k :: body) ++ sum) ++ rest).length = body.length + 9 + rest.length := by simp [be_length, hs]; omega
  unfold headOf
  rw [e4, en, if_neg (by omega), if_neg (by omega), if_neg (by omega), ← List.drop_drop, ed]
  have e1 : ((k :: body) ++ (sum ++ rest)).drop (body.length + 1) = sum ++ rest := List.drop_left' (by simp)
  have e2 : ((k :: body) ++ (sum ++ rest)).take (body.length + 1) = k :: body := List.take_left' (by simp)
  have e3 : (sum ++ rest).take 4 = sum := List.take_left' hs
  rw [e1, e2, e3]
  have e5 : (be 4 (body.length + 1) ++ ((k :: body) ++ sum) ++ rest).getD 4 0 = k := by
    have : (be 4 (body.length + 1) ++ ((k :: body) ++ sum) ++ rest).getD 4 0 = ((be 4 (body.length + 1) ++ ((k :: body) ++ sum) ++ rest).drop 4).getD 0 0 := by simp [List.getD]
    rw [this, ed]; rfl
  have e6 : ((be 4 (body.length + 1) ++ ((k :: body) ++ sum) ++ rest).drop 5).take (body.length + 1 - 1) = body := by
    rw [show (5 : Nat) = 4 + 1 from rfl, ← List.drop_drop, ed]
    simp
  rw [e5, e6]

theorem head_frame (f : Fr) (rest : List UInt8) (hb : f.2.length ≤ 65535) : headOf (frameOf f ++ rest) = some (some (f.1, f.2, f.2.length + 9)) := by
  unfold frameOf
  rw [head_parts f.1 f.2 _ rest hb (be_length _ _), if_pos (num_be _ _ (by have := moreOf_lt 0 (f.1 :: f.2); unfold crcOf; omega))]

theorem take_frame (f : Fr) (rest : List UInt8) (hb : f.2.length ≤ 65535) : takeOf (frameOf f ++ rest) = (f :: (takeOf rest).1, (takeOf rest).2) := by
  rw [take_whole (head_frame f rest hb), List.drop_left' (frame_len f)]

theorem take_frames (fs : List Fr) (rest : List UInt8) (hb : ∀ f ∈ fs, f.2.length ≤ 65535) : takeOf (fs.flatMap frameOf ++ rest) = (fs ++ (takeOf rest).1, (takeOf rest).2) := by
  induction fs with
  | nil => simp
  | cons f fs ih =>
    rw [List.flatMap_cons, List.append_assoc, take_frame f _ (hb f (by simp)), ih (fun g hg => hb g (by simp [hg]))]
    rfl

theorem split_at (l : List UInt8) (j : Nat) (h : j < l.length) : l = l.take j ++ [l[j]] ++ l.drop (j + 1) := by
  rw [List.append_assoc, List.singleton_append, ← List.drop_eq_getElem_cons h, List.take_append_drop]

theorem set_parts (l : List UInt8) (j : Nat) (y : UInt8) (h : j < l.length) : l.set j y = l.take j ++ [y] ++ l.drop (j + 1) := by
  rw [List.set_eq_take_append_cons_drop, if_pos h]
  simp

/-- Another byte within the kind, the body or the sum: it is refused. -/
theorem turn_wrong (f : Fr) (rest : List UInt8) (hb : f.2.length ≤ 65535) (j : Nat) (hj : j < f.2.length + 5) (y : UInt8) (hy : y ≠ (frameOf f).getD (4 + j) 0) :
    takeOf ((frameOf f).set (4 + j) y ++ rest) = ([], none) := by
  obtain ⟨k, body⟩ := f
  simp only at hb hj
  have hcs : (be 4 (crcOf (k :: body))).length = 4 := be_length _ _
  have hcv : numOf (be 4 (crcOf (k :: body))) = crcOf (k :: body) := num_be _ _ (by have := moreOf_lt 0 (k :: body); unfold crcOf; omega)
  have e0 : (frameOf (k, body)).set (4 + j) y = be 4 (body.length + 1) ++ ((k :: body) ++ be 4 (crcOf (k :: body))).set j y := by
    unfold frameOf
    rw [List.set_append_right _ _ (by rw [be_length]; omega), be_length]
    congr 2
    omega
  have e1 : (frameOf (k, body)).getD (4 + j) 0 = ((k :: body) ++ be 4 (crcOf (k :: body))).getD j 0 := by
    unfold frameOf
    simp only [List.getD]
    rw [List.getElem?_append_right (by rw [be_length]; omega), be_length]
    congr 2
    omega
  rw [e1] at hy
  rw [e0]
  clear e0 e1
  refine take_wrong ?_
  by_cases h1 : j < (k :: body).length
  · rw [List.set_append_left _ _ h1]
    have hy' : y ≠ (k :: body)[j] := by
      intro e; apply hy; rw [e]; simp only [List.getD, List.getElem?_append_left h1, List.getElem?_eq_getElem h1]; rfl
    have hne : crcOf (k :: body) ≠ crcOf ((k :: body).set j y) := by
      intro e
      have h3 := split_at (k :: body) j h1
      have h4 := set_parts (k :: body) j y h1
      have e' : crcOf ((k :: body).take j ++ [(k :: body)[j]] ++ (k :: body).drop (j + 1)) = crcOf ((k :: body).take j ++ [y] ++ (k :: body).drop (j + 1)) := by rw [← h3, ← h4]; exact e
      have := crc_burst ((k :: body).take j) [(k :: body)[j]] [y] ((k :: body).drop (j + 1)) rfl (by simp) e'
      simp at this
      exact hy' this.symm
    generalize hz : (k :: body).set j y = z at hne
    have hzl : z.length = body.length + 1 := by rw [← hz]; simp
    obtain ⟨k', body', rfl⟩ : ∃ k' body', z = k' :: body' := by cases z with
      | nil => simp at hzl
      | cons a b => exact ⟨a, b, rfl⟩
    have hbl : body'.length = body.length := by simpa using hzl
    rw [← hbl, head_parts k' body' _ rest (by omega) hcs, if_neg (by rw [hcv]; exact hne)]
  · have h2 : (k :: body).length ≤ j := by omega
    rw [List.set_append_right _ _ h2, head_parts k body _ rest hb (by rw [List.length_set]; exact hcs), if_neg]
    intro e
    have := numOf_inj (by rw [List.length_set]) (e.trans hcv.symm)
    apply hy
    have hjl : j - (k :: body).length < (be 4 (crcOf (k :: body))).length := by rw [hcs]; simp only [List.length_cons] at h2 ⊢; omega
    simp only [List.getD]
    rw [List.getElem?_append_right h2]
    generalize be 4 (crcOf (k :: body)) = s at this hjl ⊢
    rw [← this, List.getElem?_set_self hjl]
    rfl
end Go.Proofs.Ytdhafnmahpafaaa
