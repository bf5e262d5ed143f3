/- What Put answers: ErrArg, ErrLong, or the fields' bytes in memory of their own. -/
import Derived.Test.YtkkdiciadkcmmaaWritten
namespace Go.Proofs.Ytkkdiciadkcmmaa
open Go.RowKit

theorem right_yes (a : Option Addr) (len cap : Nat) (its : List It) (w : World) (hl : its.length = len) (hat : FAt w a its) (h : Right (fds its)) :
    Calls Try.prog 10 #[.slice a len cap] w fun e w' => e = .returned (.bool true) ∧ Below w.heap.size w w' := by
  refine (right_any a len cap its w hl hat).mono ?_
  rintro e w' ⟨r, rfl, hr, hb⟩
  rw [hr.2 h]
  exact ⟨rfl, hb⟩

theorem right_no (a : Option Addr) (len cap : Nat) (its : List It) (w : World) (hl : its.length = len) (hat : FAt w a its) (h : ¬ Right (fds its)) :
    Calls Try.prog 10 #[.slice a len cap] w fun e w' => e = .returned (.bool false) ∧ Below w.heap.size w w' := by
  refine (right_any a len cap its w hl hat).mono ?_
  rintro e w' ⟨r, rfl, hr, hb⟩
  cases r with
  | true => exact absurd (hr.1 rfl) h
  | false => exact ⟨rfl, hb⟩

theorem put_no (a : Option Addr) (len cap : Nat) (its : List It) (w : World) (hl : its.length = len) (hat : FAt w a its) (h : ¬ Right (fds its)) :
    Calls Try.prog 8 #[.slice a len cap] w fun e w' => e = .returned (.tuple #[.slice none 0 0, .int .i64 2]) ∧ Below w.heap.size w w' := by
  go_enter Try.func8, Try.ntmps8
  go_wp2_with fail
  refine (right_no a len cap its _ hl hat h).mono ?_
  rintro e w1 ⟨rfl, hb⟩
  go_wp2
  go_ret2
  exact ⟨rfl, hb⟩

/-- The bytes of the first j fields. -/
def upto (its : List It) (j : Nat) : List UInt8 := ((fds its).take j).flatMap bytesF

theorem upto_snoc (its : List It) (j : Nat) (h : j < its.length) : upto its (j + 1) = upto its j ++ bytesF its[j].fd := by
  unfold upto
  rw [List.take_succ_eq_append_getElem (by simpa [fds] using h), List.flatMap_append]
  simp [fds]

theorem upto_all (its : List It) : bytesOf (fds its) = UInt8.ofNat its.length :: upto its its.length := by
  unfold upto bytesOf
  rw [List.take_of_length_le (by simp [fds])]
  simp [fds]

theorem upto_le (its : List It) (hg : ∀ q (hq : q < its.length), Good its[q].fd) (j : Nat) (h : j ≤ its.length) : (upto its j).length ≤ j * 20000000 := by
  induction j with
  | zero => simp [upto]
  | succ j ih =>
    rw [upto_snoc its j (by omega), List.length_append]
    have h1 := ih (by omega)
    have h2 := good_len (hg j (by omega))
    omega

theorem add8_len (n : Nat) (X : Int) (w : World) (hX : X = (n : Int)) (hn : n < 256) :
    Calls Try.prog 27 #[.slice none 0 0, .int .u8 X] w fun e w' => ∃ g, e = .returned (.slice (some ⟨g, 0, none⟩) 1 1) ∧ w.heap.size ≤ g ∧ Row w' g [UInt8.ofNat n] ∧ Below w.heap.size w w' := by
  have e : X = ((UInt8.ofNat n).toNat : Int) := by rw [of_nat_toNat n hn]; exact hX
  rw [e]
  exact add8_of none 0 0 (UInt8.ofNat n) [] w rfl (by omega) (at_nil _ _)

set_option maxRecDepth 100000 in
set_option maxHeartbeats 4000000 in
theorem put_right (a : Option Addr) (len cap : Nat) (its : List It) (w : World) (hl : its.length = len) (hat : FAt w a its) (h : Right (fds its)) :
    Calls Try.prog 8 #[.slice a len cap] w fun e w' => ((65000 < (bytesOf (fds its)).length ∧ e = .returned (.tuple #[.slice none 0 0, .int .i64 3])) ∨ ((bytesOf (fds its)).length ≤ 65000 ∧ ∃ v, e = .returned (.tuple #[v, .int .i64 0]) ∧ Own w' w.heap.size v (bytesOf (fds its)))) ∧ Below w.heap.size w w' := by
  have hri := (right_iff its).1 h
  have hgood : ∀ q (hq : q < its.length), Good its[q].fd := fun q hq => (hri.2 q hq).1
  have h64 : len ≤ 64 := by have := hri.1; omega
  have hup := upto_le its hgood
  have hall := upto_all its
  rw [hl] at hall
  replace hup := hid hup
  replace hgood := hid hgood
  replace hall := hid hall
  clear hri
  go_enter Try.func8, Try.ntmps8
  go_wp2_with fail
  refine (right_yes a len cap its _ hl hat h).mono ?_
  rintro e w1 ⟨rfl, hb1⟩
  replace h := hid h
  go_wp2
  go_loopw [4, 15] (fun s i wr => ∃ j : Nat, j ≤ len ∧ i = .int .i64 j ∧ s = .int .i64 ((1 + (upto its j).length : Nat) : Int) ∧ Below w.heap.size w wr) (fun _ i _ => len - (intOf i).toNat)
  case atStart => exact ⟨0, Nat.zero_le _, rfl, rfl, hb1⟩
  case round =>
    obtain ⟨j, hj, rfl, rfl, hb⟩ := hrel
    by_cases hlt : j < len
    · have hatw := hat.below hb
      obtain ⟨b, o, rfl, hc⟩ := hatw.form (by intro e; subst e; simp at hl; omega)
      obtain ⟨c0, c1, c2, c3, c4, c5⟩ := hc j (by omega)
      have hit := hatw.2 (its[j]'(by omega)) (List.getElem_mem _)
      have hgj := hgood.out j (by omega)
      have hsn := congrArg List.length (upto_snoc its j (by omega))
      rw [List.length_append] at hsn
      have hle := hup.out j (by omega)
      have hle2 := good_len hgj
      generalize its[j]'(by omega) = it at *
      clear hc hatw
      replace hl := hid hl
      replace hsn := hid hsn
      have hbl := below_lit wr (.cells #[.int .u8 (it.fd.tag.toNat : Int), .int .u8 (it.fd.kind.toNat : Int), .int .i64 it.fd.n, .string it.fd.text, .slice it.na it.fd.ns.length it.nc, .slice it.ta it.fd.texts.length it.tc] 30)
      have hcall := size_any it _ (hit.below hbl) hgj
      unfold It.val at hcall
      generalize (upto its j).length = L at *
      generalize hF : (bytesF it.fd).length = F at *
      replace hF := hid hF
      go_wp2_with fail
      refine hcall.mono ?_
      rintro e w2 ⟨rfl, hb2⟩
      replace hb2 := bnext (bnext hb hbl) hb2
      go_wp2
      go_roundw
      case rel => exact ⟨j + 1, by omega, by go_num, by rw [hsn.out]; congr 1; omega, hb2⟩
      case measure => simp [intOf]; omega
    · obtain rfl : j = len := by omega
      have hlen : (bytesOf (fds its)).length = 1 + (upto its j).length := by rw [hall.out, List.length_cons]; omega
      by_cases hlong : 65000 < (bytesOf (fds its)).length
      · have hlong' : 65000 < 1 + (upto its j).length := by omega
        have hle := hup.out j (by omega)
        replace hlen := hid hlen
        replace hl := hid hl
        replace hlong := hid hlong
        generalize (upto its j).length = L at *
        go_wp2
        go_ret2
        exact ⟨.inl ⟨hlong.out, rfl⟩, hb⟩
      · have hlong' : 1 + (upto its j).length ≤ 65000 := by omega
        have hshort : (bytesOf (fds its)).length ≤ 65000 := by omega
        obtain ⟨L, hL⟩ : ∃ L, L = (upto its j).length := ⟨_, rfl⟩
        rw [← hL] at hlong' ⊢
        replace hL := hid hL
        replace hlen := hid hlen
        replace hlong := hid hlong
        replace hshort := hid hshort
        replace hl := hid hl
        go_wp2_with fail
        refine (add8_len j _ _ (by omega) (by omega)).mono ?_
        rintro e w2 ⟨g2, rfl, hg2, hr2, hb2⟩
        have ho2 := hr2.own (base := w.heap.size) (n := 1) rfl (Nat.le_trans hb.size hg2) (by omega)
        replace hb2 := bnext hb hb2
        go_wp2
        go_loopw [7, 32] (fun s i wr => ∃ q : Nat, q ≤ j ∧ i = .int .i64 q ∧ Own wr w.heap.size s (UInt8.ofNat j :: upto its q) ∧ Below w.heap.size w wr) (fun _ i _ => j - (intOf i).toNat)
        case atStart => exact ⟨0, Nat.zero_le _, rfl, ho2, hb2⟩
        case round =>
          obtain ⟨q, hq, rfl, ho, hbr⟩ := hrel
          obtain ⟨av, cv, rfl, _, _⟩ := ho.form
          by_cases hlt2 : q < j
          · have hatw := hat.below hbr
            obtain ⟨b, o, rfl, hc⟩ := hatw.form (by intro e; subst e; have := hl.out; simp at this; omega)
            obtain ⟨c0, c1, c2, c3, c4, c5⟩ := hc q (by have := hl.out; omega)
            have hit := hatw.2 (its[q]'(by have := hl.out; omega)) (List.getElem_mem _)
            have hgj := hgood.out q (by have := hl.out; omega)
            have hsn := upto_snoc its q (by have := hl.out; omega)
            have hle := hup.out q (by have := hl.out; omega)
            have hle2 := good_len hgj
            generalize its[q]'(by have := hl.out; omega) = it at *
            clear hc hatw
            replace hsn : UInt8.ofNat j :: upto its (q + 1) = (UInt8.ofNat j :: upto its q) ++ bytesF it.fd := by rw [hsn]; rfl
            replace hle : (UInt8.ofNat j :: upto its q).length ≤ 1 + q * 20000000 := by rw [List.length_cons]; omega
            replace hsn := hid hsn
            replace hle := hid hle
            replace hle2 := hid hle2
            have hbl := below_lit wr (.cells #[.int .u8 (it.fd.tag.toNat : Int), .int .u8 (it.fd.kind.toNat : Int), .int .i64 it.fd.n, .string it.fd.text, .slice it.na it.fd.ns.length it.nc, .slice it.ta it.fd.texts.length it.tc] 30)
            have hcall := written_any it _ (hit.below hbl) hgj
            unfold It.val at hcall
            generalize UInt8.ofNat j :: upto its q = M at *
            have ho' := ho.below hbl
            go_wp2_with fail
            refine hcall.mono ?_
            rintro e w3 ⟨v3, rfl, ho3, hb3⟩
            replace ho' := ho'.below hb3
            replace hb3 := bnext (bnext hbr hbl) hb3
            obtain ⟨a3, c3', rfl, _, hat3⟩ := ho3.form
            have hz3 := hb3.size
            go_wp2_with (at_builtin; refine wpList_app _ rfl (.tmp 36) (.tmp 38) rfl rfl w.heap.size _ M (bytesF it.fd) rfl ho' a3 (bytesF it.fd).length c3' rfl rfl hat3 (by have := hle.out; have := hle2.out; omega) hz3 ?_; intro v4 w4 ho4 hb4)
            obtain ⟨a4, c4', rfl, _, _⟩ := ho4.form
            go_wp2
            go_roundw
            case rel => exact ⟨q + 1, by omega, by go_num, by rw [hsn.out]; exact ho4, hb3.trans hb4⟩
            case measure => simp [intOf]; omega
          · obtain rfl : q = j := by omega
            go_wp2
            go_ret2
            exact ⟨.inr ⟨hshort.out, _, rfl, by rw [hall.out]; exact ho⟩, hbr⟩
end Go.Proofs.Ytkkdiciadkcmmaa
