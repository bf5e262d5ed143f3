/- The place of an account in a right tree; its path. -/
import Derived.Test.YtjfgpepecjkdnaaRight
namespace Go.Proofs.Ytjfgpepecjkdnaa
open Go.RowKit

/-- Which error a name has in a list. -/
def errP (L : List Acc) (n : ByteArray) : Int := if rightB L = true then (if (fi L n).isSome = true then 0 else 141) else 2
def placeP (L : List Acc) (n : ByteArray) : Int := if rightB L = true then (match fi L n with | none => 0 | some i => (i : Int)) else 0

theorem err_ok {L : List Acc} {n : ByteArray} (h : errP L n = 0) : rightB L = true ∧ ∃ i, fi L n = some i := by
  unfold errP at h
  by_cases h1 : rightB L = true
  · rw [if_pos h1] at h
    refine ⟨h1, ?_⟩
    cases e : fi L n with
    | none => rw [e] at h; simp at h
    | some i => exact ⟨i, rfl⟩
  · rw [if_neg h1] at h; omega
theorem err_of {L : List Acc} {n : ByteArray} {i : Nat} (h : rightB L = true) (hi : fi L n = some i) : errP L n = 0 := by unfold errP; rw [if_pos h, hi]; rfl
theorem err_no {L : List Acc} {n : ByteArray} (h : rightB L = true) (hi : fi L n = none) : errP L n = 141 := by unfold errP; rw [if_pos h, hi]; rfl
theorem err_arg {L : List Acc} {n : ByteArray} (h : rightB L = false) : errP L n = 2 := by unfold errP; rw [h]; rfl
theorem place_of {L : List Acc} {n : ByteArray} {i : Nat} (h : rightB L = true) (hi : fi L n = some i) : placeP L n = (i : Int) := by unfold placeP; rw [if_pos h, hi]

theorem placeof_any (a : Option Addr) (k c : Nat) (L : List Acc) (n : ByteArray) (w : World) (hn : L.length = k) (hl : k ≤ 4611686018427387904) (hkc : k ≤ c) (hat : AAt w a L) :
    Calls Try.prog 67 #[.slice a k c, .string n] w fun e w' => e = .returned (.tuple #[.int .i64 (placeP L n), .int .i64 (errP L n)]) ∧ Below w.heap.size w w' := by
  have k1 := right_any a k c L w hn hkc hat
  have k2 := fun w2 (h : Below w.heap.size w w2) => find_any a k c L n w2 hn hl (hat.below h)
  replace hn := hid hn
  replace hat := hid hat
  unfold placeP errP
  cases hR : rightB L with
  | false =>
    rw [hR] at k1
    replace hR := hid hR
    go_enter Try.func67, Try.ntmps67
    go_wp2_with fail
    refine k1.mono ?_
    rintro e w1 ⟨rfl, hb1⟩
    go_wp2
    go_ret2
    exact ⟨rfl, hb1⟩
  | true =>
    rw [hR] at k1
    replace hR := hid hR
    generalize fi L n = r at *
    go_enter Try.func67, Try.ntmps67
    go_wp2_with fail
    refine k1.mono ?_
    rintro e w1 ⟨rfl, hb1⟩
    go_wp2_with fail
    refine (k2 _ hb1).mono ?_
    rintro e w2 ⟨rfl, hb2⟩
    have B2 := bnext hb1 hb2
    cases r with
    | none =>
      simp only [FRet]
      go_wp2
      go_ret2
      exact ⟨rfl, B2⟩
    | some i =>
      simp only [FRet]
      go_wp2
      go_ret2
      exact ⟨rfl, B2⟩

/-- A list of texts and an error, as an answer. -/
def TTold (T : List ByteArray) (E : Int) (w : World) (e : Ending) (w' : World) : Prop :=
  ∃ a c, e = .returned (.tuple #[.slice a T.length c, .int .i64 E]) ∧ T.length ≤ c ∧ TOwn w' w.heap.size (.slice a T.length c) T ∧ Below w.heap.size w w'

theorem TTold.none {E : Int} {w w' : World} (h : Below w.heap.size w w') : TTold [] E w (.returned (.tuple #[.slice Option.none 0 0, .int .i64 E])) w' := ⟨Option.none, 0, rfl, Nat.le_refl _, TOwn.nil _ _, h⟩

/-- A list of texts alone. -/
def TTold1 (T : List ByteArray) (w : World) (e : Ending) (w' : World) : Prop :=
  ∃ a c, e = .returned (.slice a T.length c) ∧ T.length ≤ c ∧ TOwn w' w.heap.size (.slice a T.length c) T ∧ Below w.heap.size w w'

theorem TOwn.form {w : World} {base : Nat} {v : Value} {T : List ByteArray} (h : TOwn w base v T) : ∃ a c, v = .slice a T.length c ∧ T.length ≤ c := owns_form h

def boolOf : Value → Bool
  | .bool b => b
  | _ => false

set_option maxRecDepth 100000 in
set_option maxHeartbeats 1000000 in
theorem path24 (a : Option Addr) (k c : Nat) (L : List Acc) (n : ByteArray) (w : World) (hn : L.length = k) (hat : AAt w a L) (hR : rightB L = true) :
    Calls Try.prog 68 #[.slice a k c, .string n] w fun e w' => TTold1 (pathP L n) w e w' := by
  obtain ⟨i9, hi9, z90, z91, z92⟩ := info_parts info9
  have hk16 : k ≤ 16 := by rw [← hn]; exact (right_is.1 hR).2.1
  have kF := fun m w2 (h : Below w.heap.size w w2) => find_any a k c L m w2 hn (by omega) (hat.below h)
  have step := fun (m : ByteArray) (i : Nat) (h : fi L m = some i) => path_step hR h
  have hup := fun (m : ByteArray) (i j : Nat) (h : fi L m = some i) (h2 : fi L (accAt L i).2.1 = some j) => right_up hR (fi_lt h) h2
  have hlt := fun (m : ByteArray) (i : Nat) (h : fi L m = some i) => fi_lt h
  replace hn := hid hn
  replace hat := hid hat
  replace hR := hid hR
  replace step := hid step
  replace hup := hid hup
  replace hlt := hid hlt
  have k0 := kF n w (Below.refl _ _)
  go_enter Try.func68, Try.ntmps68
  go_wp2_with fail
  refine k0.mono ?_
  rintro e w1 ⟨rfl, hb1⟩
  clear k0
  have start : ∀ r, fi L n = r → ∃ vi vb, FRet r = .returned (.tuple #[.int .i64 vi, .bool vb]) ∧ ((vb = true ∧ ∃ i : Nat, vi = (i : Int) ∧ r = some i) ∨ (vb = false ∧ r = none)) := fun r _ => by
    cases r with
    | none => exact ⟨0, false, rfl, .inr ⟨rfl, rfl⟩⟩
    | some i => exact ⟨i, true, rfl, .inl ⟨rfl, i, rfl, rfl⟩⟩
  obtain ⟨vi, vb, he, hst⟩ := start _ rfl
  rw [he]
  clear he start
  replace hst := hid hst
  go_wp2_with fail
  go_loopw [5, 6, 7] (fun v x y wr => ∃ (D : List ByteArray) (m : ByteArray) (vi : Int) (vb : Bool), x = .int .i64 vi ∧ y = .bool vb ∧ Hid (TOwn wr w.heap.size v D ∧ pathP L n = D ++ pathP L m ∧ ((vb = true ∧ ∃ i : Nat, vi = (i : Int) ∧ fi L m = some i ∧ D.length + i < k) ∨ (vb = false ∧ fi L m = none)) ∧ D.length ≤ k) ∧ Below w.heap.size w wr) (fun _ x y _ => if boolOf y = true then (intOf x).toNat + 1 else 0)
  case atStart =>
    refine ⟨[], n, vi, vb, rfl, rfl, hid ⟨TOwn.nil _ _, rfl, ?_, Nat.zero_le _⟩, hb1⟩
    rcases hst.out with ⟨h1, i, h2, h3⟩ | ⟨h1, h2⟩
    · exact .inl ⟨h1, i, h2, h3, by have := hlt.out n i h3; have := hn.out; simp; omega⟩
    · exact .inr ⟨h1, h2⟩
  case round =>
    obtain ⟨D, m, vi, vb, rfl, rfl, hin, hb⟩ := hrel
    clear hst
    cases vb with
    | true =>
      obtain ⟨hown, hp, hcase, hDk⟩ := hin.out
      obtain ⟨i, rfl, him, hDi⟩ : ∃ i : Nat, vi = (i : Int) ∧ fi L m = some i ∧ D.length + i < k := by
        rcases hcase with ⟨_, h⟩ | ⟨h, _⟩
        · exact h
        · cases h
      clear hcase hin
      have hiL := hlt.out m i him
      have hik : i < k := by rw [← hn.out]; exact hiL
      obtain ⟨b, o, e⟩ := hat.out.place (by omega)
      subst e
      obtain ⟨x0, x1, x2⟩ := (hat.out.below hb).one hiL
      have hm := fi_name him
      rw [hm] at x0
      have hp2 := hp
      rw [step.out m i him] at hp2
      have bl := below_lit wr (.cells #[.string m] 9)
      have B0 := bnext hb bl
      obtain ⟨va, vc, e, hvc⟩ := hown.form
      subst e
      have hown2 := hid (hown.below bl)
      have hcat := hid (cat_lit wr 9 [.string m] #[.string m] rfl)
      have hDb := hid hDk
      replace hown := hid hown
      replace hp := hid hp
      replace hp2 := hid hp2
      replace him := hid him
      replace hm := hid hm
      go_wp2_with (at_builtin; refine Hid.out ?_)
      refine wpList_cat _ rfl (.tmp 25) (.tmp 31) 36 rfl w.heap.size 9 i9 _ 1 16 Try.underlying36 hi9 z90 z91 z92 rfl (by omega) _ _ _ rfl hown2.out (some ⟨wr.heap.size, 0, none⟩) 1 1 [.string m] rfl rfl hcat.out (one_S m) (by unfold maxLen; omega) (by omega) B0.size ?_
      intro v' w2 ho2 hg2 hv2
      have K2 := Kp.grown hg2
      have hown3 : TOwn w2 w.heap.size v' (D ++ [m]) := by
        unfold TOwn
        rw [List.map_append, List.length_append]
        exact ho2
      have B2 : Below w.heap.size w w2 := Below.grown B0 hg2 B0.size (fun j hj => (hown2.out.lt _ hj).1)
      have y1 := ((hat.out.below B2).one hiL).2.1
      replace hown3 := hid hown3
      clear ho2 hg2 hv2 K2 x0 x1 x2 hcat hown hown2
      go_wp2_with fail
      refine (kF (accAt L i).2.1 _ B2).mono ?_
      rintro e w3 ⟨rfl, hb3⟩
      have B3 := bnext B2 hb3
      cases hr : fi L (accAt L i).2.1 with
      | none =>
        simp only [FRet]
        replace hr := hid hr
        generalize (accAt L i).2.1 = q at *
        go_wp2_with fail
        go_roundw
        case rel => exact ⟨D ++ [m], q, 0, false, rfl, rfl, hid ⟨hown3.out.below hb3, by rw [hp2.out]; simp, .inr ⟨rfl, hr.out⟩, by simp; omega⟩, B3⟩
        case measure => simp [boolOf]
      | some j =>
        have hj := hup.out m i j him.out hr
        simp only [FRet]
        replace hr := hid hr
        generalize (accAt L i).2.1 = q at *
        go_wp2_with fail
        go_roundw
        case rel => exact ⟨D ++ [m], q, j, true, rfl, rfl, hid ⟨hown3.out.below hb3, by rw [hp2.out]; simp, .inl ⟨rfl, j, rfl, hr.out, by simp; omega⟩, by simp; omega⟩, B3⟩
        case measure => simp [boolOf, intOf]; omega
    | false =>
      obtain ⟨hown, hp, hcase, hDk⟩ := hin.out
      have hno : fi L m = none := by
        rcases hcase with ⟨h, _⟩ | ⟨_, h⟩
        · cases h
        · exact h
      rw [path_no hno, List.append_nil] at hp
      clear hcase hin
      obtain ⟨va, vc, e, hvc⟩ := hown.form
      subst e
      replace hown := hid hown
      replace hp := hid hp
      go_wp2
      go_ret
      rw [hp.out]
      exact ⟨va, vc, rfl, hvc, hown.out, hb⟩

theorem pathf_any (a : Option Addr) (k c : Nat) (L : List Acc) (n : ByteArray) (w : World) (hn : L.length = k) (hl : k ≤ 4611686018427387904) (hkc : k ≤ c) (hat : AAt w a L) :
    Calls Try.prog 50 #[.slice a k c, .string n] w fun e w' => TTold (if errP L n = 0 then pathP L n else []) (errP L n) w e w' := by
  have k1 := placeof_any a k c L n w hn hl hkc hat
  by_cases h : errP L n = 0
  · have k2 := fun w2 (hb : Below w.heap.size w w2) => path24 a k c L n w2 hn (hat.below hb) (err_ok h).1
    rw [if_pos h]
    rw [h] at k1 ⊢
    replace h := hid h
    replace hn := hid hn
    replace hat := hid hat
    generalize pathP L n = T at *
    generalize placeP L n = p at *
    go_enter Try.func50, Try.ntmps50
    go_wp2_with fail
    refine k1.mono ?_
    rintro e w1 ⟨rfl, hb1⟩
    go_wp2_with fail
    refine (k2 _ hb1).mono ?_
    rintro e w2 ⟨va, vc, rfl, hvc, ho, hb2⟩
    have B2 := bnext hb1 hb2
    replace ho := hid ho
    go_wp2
    go_ret2
    exact ⟨va, vc, rfl, hvc, ho.out.low hb1.size, B2⟩
  · rw [if_neg h]
    have h1 : (errP L n == 0) = false := by simpa using h
    replace hn := hid hn
    replace hat := hid hat
    generalize placeP L n = p at *
    generalize errP L n = E at *
    go_enter Try.func50, Try.ntmps50
    go_wp2_with fail
    refine k1.mono ?_
    rintro e w1 ⟨rfl, hb1⟩
    go_wp2
    go_ret2
    exact TTold.none hb1

end Go.Proofs.Ytjfgpepecjkdnaa
