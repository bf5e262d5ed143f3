/- SetBack: what is told of nodes is read as these nodes. -/
import Derived.Test.YtebdlcgegdobkaaDoorAwake
namespace Go.Proofs.YtebdlcgegdobkaaDoor
open Go.RowKit

theorem str_form (l : List UInt8) : ∃ p : ByteArray, Str l = .string p ∧ p.toList = l := ⟨⟨l.toArray⟩, rfl, by rw [Lib.toList_data]⟩

theorem of_list {s : Nat} (hs : s < 4294967296) : ofP (L2 (lst s)) = (s, 0) := by
  have h1 : OkTo (L2 (lst s)) (L2 (lst s)).length := by
    intro n hn
    rw [List.take_length] at hn
    obtain ⟨x, hx, rfl⟩ := List.mem_map.1 hn
    have := (mem_lst.1 hx).1
    constructor
    · exact Int.natCast_nonneg x
    · show (x : Int) < 32; omega
  rw [ofP_ok h1]
  have h2 : (L2 (lst s)).map Int.toNat = lst s := by
    unfold L2
    rw [List.map_map]
    conv => rhs; rw [← List.map_id (lst s)]
    apply List.map_congr_left
    intro x _
    rfl
  rw [h2, ofN_lst hs]

theorem parse_lt (l : List UInt8) : (parseP l).1 < 4294967296 := by
  unfold parseP
  split
  · decide
  · cases h : readP l with
    | none => show (0 : Nat) < 4294967296; omega
    | some s =>
      simp only
      split
      · have : ∀ (ps : List (List UInt8)) (t : Nat), t < 4294967296 → ∀ r, ps.foldl readStep (some t) = some r → r < 4294967296 := by
          intro ps
          induction ps with
          | nil => intro t ht r hr; cases hr; exact ht
          | cons p q ih =>
            intro t ht r hr
            rw [List.foldl_cons] at hr
            cases hp : runOfP p with
            | none => rw [show readStep (some t) p = none by simp [readStep, hp], fold_none] at hr; cases hr
            | some x =>
              have hx : x < 4294967296 := by have := runV_lt p; unfold runV at this; rw [hp] at this; exact this
              rw [show readStep (some t) p = some (t ||| x) by simp [readStep, hp]] at hr
              exact ih _ (or_lt2 ht hx) r hr
        exact this _ 0 (by omega) s h
      · decide

set_option maxHeartbeats 1600000 in
theorem back_any (a b : Nat) (l : List UInt8) (ha : a < 4294967296) (hb : b < 4294967296) (hl : l.length ≤ 9223372036854775807) (w : World) :
    Calls Tryd.prog 5 #[.int .u32 (a : Int), .int .u32 (b : Int), Str l] w fun e w' => e = .returned (.bool true) ∧ Below w.heap.size w w' := by
  obtain ⟨pa, ea, la⟩ := str_form (pr a)
  obtain ⟨pb, eb, lb⟩ := str_form (pr b)
  obtain ⟨pl, el, ll⟩ := str_form l
  have k1 := fun w => print_any a ha w
  have k2 := fun w => print_any b hb w
  have k3 := fun w => parse_any (pr a) (by have := pr_len a; omega) w
  have k4 := fun w => parse_any l hl w
  rw [parse_print ha] at k3
  rw [ea] at k1 k3
  rw [eb] at k2
  rw [el] at k4 ⊢
  have hz := parse_lt l
  have heq : (pa.toList == pb.toList) = decide (a = b) := by
    rw [la, lb]
    by_cases h : a = b
    · subst h; simp
    · have := mt (print_inj ha hb).1 h
      simp [h, this]
  have k5 := fun w => print_any (parseP l).1 hz w
  have hback := parse_back l
  replace la := hid la; replace lb := hid lb; replace ll := hid ll
  replace ea := hid ea; replace eb := hid eb; replace el := hid el
  go_enter Tryd.func5, Tryd.ntmps5
  go_wp2_with fail
  refine (k1 _).mono ?_
  rintro e w1 ⟨rfl, hb1⟩
  go_wp2_with fail
  refine (k3 _).mono ?_
  rintro e w2 ⟨rfl, hb2⟩
  have B2 := bnext hb1 hb2
  go_wp2_with fail
  refine (list_any a ha _).mono ?_
  rintro e w3 ⟨v3, rfl, ho3, hb3⟩
  obtain ⟨a3, c3, rfl, hc3⟩ := owns_form ho3
  have hat3 := owns_cat ho3
  have hlen3 : (L2 (lst a)).length ≤ 32 := by have := cnt_le a; unfold cnt at this; simpa [L2] using this
  have kof := of_any a3 (L2 (lst a)).length c3 (L2 (lst a)) w3 rfl (by omega) hat3
  rw [of_list ha] at kof
  generalize (L2 (lst a)).length = n3 at *
  have B3 := bnext B2 hb3
  go_wp2_with fail
  refine kof.mono ?_
  rintro e w4 ⟨rfl, rfl⟩
  go_wp2_with fail
  refine (k1 _).mono ?_
  rintro e w5 ⟨rfl, hb5⟩
  have B5 := bnext B3 hb5
  go_wp2_with fail
  refine (k2 _).mono ?_
  rintro e w6 ⟨rfl, hb6⟩
  have B6 := bnext B5 hb6
  by_cases hab : a = b
  · have heq2 : (pa.toList == pb.toList) = true := by rw [heq]; simpa using hab
    have hab2 : ((a : Int) == (b : Int)) = true := by subst hab; simp
    go_wp2_with fail
    refine (k4 _).mono ?_
    rintro e w7 ⟨rfl, hb7⟩
    have B7 := bnext B6 hb7
    rcases hback with hbk | ⟨hbk1, hbk2⟩
    · rw [hbk]
      go_wp2_with fail
      refine (awake_any _).mono ?_
      rintro e w8 ⟨rfl, hb8⟩
      go_wp2
      go_ret
      exact ⟨rfl, bnext B7 hb8⟩
    · rw [hbk1]
      rw [hbk2, el.out] at k5
      generalize (parseP l).1 = z at *
      go_wp2_with fail
      refine (k5 _).mono ?_
      rintro e w8 ⟨rfl, hb8⟩
      go_wp2_with fail
      refine (awake_any _).mono ?_
      rintro e w9 ⟨rfl, hb9⟩
      go_wp2
      go_ret
      exact ⟨rfl, bnext (bnext B7 hb8) hb9⟩
  · have heq2 : (pa.toList == pb.toList) = false := by rw [heq]; simpa using hab
    have hab2 : ((a : Int) == (b : Int)) = false := by simp; omega
    go_wp2_with fail
    refine (k4 _).mono ?_
    rintro e w7 ⟨rfl, hb7⟩
    have B7 := bnext B6 hb7
    rcases hback with hbk | ⟨hbk1, hbk2⟩
    · rw [hbk]
      go_wp2_with fail
      refine (awake_any _).mono ?_
      rintro e w8 ⟨rfl, hb8⟩
      go_wp2
      go_ret
      exact ⟨rfl, bnext B7 hb8⟩
    · rw [hbk1]
      rw [hbk2, el.out] at k5
      generalize (parseP l).1 = z at *
      go_wp2_with fail
      refine (k5 _).mono ?_
      rintro e w8 ⟨rfl, hb8⟩
      go_wp2_with fail
      refine (awake_any _).mono ?_
      rintro e w9 ⟨rfl, hb9⟩
      go_wp2
      go_ret
      exact ⟨rfl, bnext (bnext B7 hb8) hb9⟩

end Go.Proofs.YtebdlcgegdobkaaDoor
