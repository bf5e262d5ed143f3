/- FieldTells's walk: Right, Put and Get answer as the document defines. -/
import Derived.Test.YtkkdiciadkcmmaaRefPut
import Derived.Test.YtkkdiciadkcmmaaRefGet
import Derived.Test.YtkkdiciadkcmmaaCopy
import Derived.Test.YtkkdiciadkcmmaaAwake
namespace Go.Proofs.Ytkkdiciadkcmmaa
open Go.RowKit

/-- What Put tells of fields: the bytes, and the error's number. -/
def PutIs (fs : List Fd) (B : List UInt8) (E : Int) : Prop :=
  (¬ Right fs ∧ B = [] ∧ E = 2) ∨ (Right fs ∧ 65000 < (bytesOf fs).length ∧ B = [] ∧ E = 3) ∨ (Right fs ∧ (bytesOf fs).length ≤ 65000 ∧ B = bytesOf fs ∧ E = 0)

theorem PutIs.ex (fs : List Fd) : ∃ B E, PutIs fs B E := by
  by_cases h : Right fs
  · by_cases hl : 65000 < (bytesOf fs).length
    · exact ⟨[], 3, .inr (.inl ⟨h, hl, rfl, rfl⟩)⟩
    · exact ⟨bytesOf fs, 0, .inr (.inr ⟨h, by omega, rfl, rfl⟩)⟩
  · exact ⟨[], 2, .inl ⟨h, rfl, rfl⟩⟩

def PutAns (w w' : World) (B : List UInt8) (E : Int) (e : Ending) : Prop := ∃ a' c', e = .returned (.tuple #[.slice a' B.length c', .int .i64 E]) ∧ At w' a' B ∧ Below w.heap.size w w'

theorem put_is (a : Option Addr) (len cap : Nat) (its : List It) (w : World) (B : List UInt8) (E : Int) (hl : its.length = len) (hat : FAt w a its) (h : PutIs (fds its) B E) :
    Calls Try.prog 8 #[.slice a len cap] w fun e w' => PutAns w w' B E e := by
  rcases h with ⟨h, rfl, rfl⟩ | ⟨h, hs, rfl, rfl⟩ | ⟨h, hs, rfl, rfl⟩
  · exact (put_no a len cap its w hl hat h).mono fun e w' ⟨he, hb⟩ => ⟨none, 0, he, at_nil _ _, hb⟩
  · exact (put_long a len cap its w hl hat h hs).mono fun e w' ⟨he, hb⟩ => ⟨none, 0, he, at_nil _ _, hb⟩
  · exact (put_ok a len cap _ its w hl hat h rfl hs).mono fun e w' ⟨a', c', he, _, ha, hb⟩ => ⟨a', c', he, ha, hb⟩

theorem refput_is (a : Option Addr) (len cap : Nat) (its : List It) (w : World) (B : List UInt8) (E : Int) (hl : its.length = len) (hat : FAt w a its) (hsh : ∀ i ∈ its, Short i) (h : PutIs (fds its) B E) :
    Calls Try.prog 15 #[.slice a len cap] w fun e w' => PutAns w w' B E e := by
  rcases h with ⟨h, rfl, rfl⟩ | ⟨h, hs, rfl, rfl⟩ | ⟨h, hs, rfl, rfl⟩
  · exact (refput_no a len cap its w hl hat hsh h).mono fun e w' ⟨he, hb⟩ => ⟨none, 0, he, at_nil _ _, hb⟩
  · refine (refput_right a len cap its w hl hat hsh h).mono ?_
    rintro e w' ⟨⟨_, he⟩ | ⟨h2, _⟩, hb⟩
    · exact ⟨none, 0, he, at_nil _ _, hb⟩
    · omega
  · refine (refput_right a len cap its w hl hat hsh h).mono ?_
    rintro e w' ⟨⟨h2, _⟩ | ⟨_, v, rfl, ho⟩, hb⟩
    · omega
    · obtain ⟨a', c', rfl, _, ha⟩ := ho.form
      exact ⟨a', c', rfl, ha, hb⟩

theorem fds_all {P : Fd → Prop} {s t : List It} (h : fds s = fds t) (ht : ∀ i ∈ t, P i.fd) : ∀ i ∈ s, P i.fd := fun i hi => by
  have : i.fd ∈ fds t := by rw [← h]; exact List.mem_map.2 ⟨i, hi, rfl⟩
  obtain ⟨j, hj, e⟩ := List.mem_map.1 this
  rw [← e]; exact ht j hj

theorem rights_any {its : List It} (a : Option Addr) (len cap : Nat) (w : World) (hl : its.length = len) (hat : FAt w a its) (hsh : ∀ i ∈ its, Short i) (R : Bool) (hR : R = true ↔ Right (fds its)) :
    Calls Try.prog 18 #[.slice a len cap] w fun e w' => e = .returned (.bool R) ∧ Below w.heap.size w w' := by
  refine (refRight_any a len cap its w hl hat hsh).mono ?_
  rintro e w' ⟨r, rfl, hr, hb⟩
  exact ⟨by rw [Bool.eq_iff_iff.2 (hr.trans hR.symm)], hb⟩

theorem righta_any {its : List It} (a : Option Addr) (len cap : Nat) (w : World) (hl : its.length = len) (hat : FAt w a its) (R : Bool) (hR : R = true ↔ Right (fds its)) :
    Calls Try.prog 10 #[.slice a len cap] w fun e w' => e = .returned (.bool R) ∧ Below w.heap.size w w' := by
  refine (right_any a len cap its w hl hat).mono ?_
  rintro e w' ⟨r, rfl, hr, hb⟩
  exact ⟨by rw [Bool.eq_iff_iff.2 (hr.trans hR.symm)], hb⟩

theorem get_short (fs : List Fd) (tag : UInt8) (h : ∀ f ∈ fs, f.ns.length ≤ 9223372036854775807 ∧ f.texts.length ≤ 9223372036854775807) : (getOf fs tag).1.ns.length ≤ 9223372036854775807 ∧ (getOf fs tag).1.texts.length ≤ 9223372036854775807 := by
  induction fs with
  | nil => exact ⟨by simp [getOf, zeroFd], by simp [getOf, zeroFd]⟩
  | cons f r ih =>
    unfold getOf
    split
    · exact h f (by simp)
    · exact ih (fun g hg => h g (by simp [hg]))

theorem bool_of (p : Prop) : ∃ R : Bool, R = true ↔ p := by
  by_cases h : p
  · exact ⟨true, by simp [h]⟩
  · exact ⟨false, by simp [h]⟩

set_option maxRecDepth 100000 in
set_option maxHeartbeats 8000000 in
theorem tells_any (a : Option Addr) (len cap : Nat) (tag : UInt8) (its : List It) (w : World) (hl : its.length = len) (hat : FAt w a its) (hlen : len * 80 ≤ 140737488355328) (hsh : ∀ i ∈ its, Short i) (hroom : ∀ i ∈ its, Room i) :
    Calls Try.prog 4 #[.slice a len cap, .int .u8 (tag.toNat : Int)] w fun e w' => e = .returned (.bool true) ∧ Below w.heap.size w w' := by
  obtain ⟨B, E, hP⟩ := PutIs.ex (fds its)
  obtain ⟨R, hR⟩ := bool_of (Right (fds its))
  replace hP := hid hP
  replace hR := hid hR
  obtain ⟨G, hG⟩ : ∃ G, G = getOf (fds its) tag := ⟨_, rfl⟩
  replace hG := hid hG
  replace hsh := hid hsh
  replace hroom := hid hroom
  go_enter Try.func4, Try.ntmps4
  go_wp2_with fail
  refine (copyfields_any a len cap its _ hl hat hlen hroom.out).mono ?_
  rintro e w1 ⟨a1, c1, cs, rfl, hfd, hcl, hf1, hb1⟩
  have hshc : ∀ i ∈ cs, Short i := fds_all (P := fun f => f.ns.length ≤ 9223372036854775807 ∧ f.texts.length ≤ 9223372036854775807) hfd hsh.out
  have hroc : ∀ i ∈ cs, Room i := fds_all (P := fun f => f.ns.length * 8 ≤ 140737488355328 ∧ f.texts.length * 16 ≤ 140737488355328) hfd hroom.out
  replace hfd := hid hfd
  replace hcl := hid hcl
  replace hl := hid hl
  replace hshc := hid hshc
  replace hroc := hid hroc
  go_wp2_with fail
  refine (put_is a1 len c1 cs _ B E hcl.out hf1 (by rw [hfd.out]; exact hP.out)).mono ?_
  rintro e w2 ⟨a2, c2, rfl, hat2, hb2⟩
  replace hf1 := hf1.below hb2
  replace hb2 := bnext hb1 hb2
  go_wp2_with fail
  refine (refput_is a len cap its _ B E hl.out (hat.below hb2) hsh.out hP.out).mono ?_
  rintro e w3 ⟨a3, c3, rfl, hat3, hb3⟩
  replace hf1 := hf1.below hb3
  replace hat2 := hat2.below hb3
  replace hb3 := bnext hb2 hb3
  have hgt := get_any a1 len c1 tag cs w3 hcl.out (by omega) hf1 hroc.out
  rw [hfd.out, ← hG.out] at hgt
  go_wp2_with fail
  refine hgt.mono ?_
  rintro e w4 ⟨x, rfl, hx, hxa, hb4⟩
  replace hf1 := hf1.below hb4
  replace hat2 := hat2.below hb4
  replace hat3 := hat3.below hb4
  replace hb4 := bnext hb3 hb4
  replace hx := hid hx
  clear hgt
  have hbl4 := below_lit w4 (itObj x)
  have hgt := refget_any a len cap tag its (w4.alloc (itObj x)) hl.out (by omega) ((hat.below hb4).below hbl4)
  rw [← hG.out] at hgt
  unfold It.val
  go_wp2_with fail
  refine hgt.mono ?_
  rintro e w5 ⟨y, rfl, hy, hya, hb5⟩
  have hrx := cop_one (wr := w4) (it := x) hb5
  replace hf1 := (hf1.below hbl4).below hb5
  replace hat2 := (hat2.below hbl4).below hb5
  replace hat3 := (hat3.below hbl4).below hb5
  replace hxa := (hxa.below hbl4).below hb5
  replace hb5 := bnext (bnext hb4 hbl4) hb5
  replace hy := hid hy
  clear hgt
  have hbl5 := below_lit w5 (itObj y)
  replace hf1 := hf1.below hbl5
  replace hat2 := hat2.below hbl5
  replace hat3 := hat3.below hbl5
  replace hxa := hxa.below hbl5
  replace hya := hya.below hbl5
  replace hb5 := bnext hb5 hbl5
  have hry0 : RB (w5.alloc (itObj y)) w5.heap.size _ _ _ _ _ _ := heap_alloc_new w5 _
  replace hrx := hrx.below hbl5
  unfold It.val
  have hc6 := righta_any a1 len c1 (w5.alloc (itObj y)) hcl.out hf1 R (by rw [hfd.out]; exact hR.out)
  unfold itObj at *
  go_wp2_with fail
  refine hc6.mono ?_
  rintro e w6 ⟨rfl, hb6⟩
  replace hf1 := hf1.below hb6
  replace hat2 := hat2.below hb6
  replace hat3 := hat3.below hb6
  replace hxa := hxa.below hb6
  replace hya := hya.below hb6
  replace hrx := hrx.below hb6
  replace hry0 := hry0.below hb6
  replace hb6 := bnext hb5 hb6
  clear hc6
  go_wp2_with fail
  refine (rights_any a len cap _ hl.out (hat.below hb6) hsh.out R hR.out).mono ?_
  rintro e w7 ⟨rfl, hb7⟩
  replace hf1 := hf1.below hb7
  replace hat2 := hat2.below hb7
  replace hat3 := hat3.below hb7
  replace hxa := hxa.below hb7
  replace hya := hya.below hb7
  replace hrx := hrx.below hb7
  replace hry0 := hry0.below hb7
  replace hb7 := bnext hb6 hb7
  have eR : (R == R) = true := by simp
  have eE : (E == E) = true := by simp
  have eG : (G.2 == G.2) = true := by simp
  go_wp2_with fail
  refine (same_any a2 a3 B.length B.length c2 c3 B B _ rfl rfl hat2 hat3 rfl).mono ?_
  rintro e w8 ⟨rfl, rfl⟩
  obtain ⟨x0, x1, x2, x3, x4, x5⟩ := hrx.six
  obtain ⟨y0, y1, y2, y3, y4, y5⟩ := hry0.six
  have hxs : x.fd.ns.length ≤ 9223372036854775807 ∧ x.fd.texts.length ≤ 9223372036854775807 := by
    rw [hx.out, hG.out]
    exact get_short (fds its) tag (fun f hf => by obtain ⟨i, hi, rfl⟩ := List.mem_map.1 hf; exact hsh.out i hi)
  have hc8 := samefield_any x y w8 hxa hya hxs.1 hxs.2
  unfold It.val at hc8
  go_wp2_with fail
  refine hc8.mono ?_
  rintro e w9 ⟨r, rfl, hr, hb9⟩
  obtain rfl : r = true := hr.2 (by rw [hx.out, hy.out])
  replace hf1 := hf1.below hb9
  replace hb9 := bnext hb7 hb9
  clear hc8 hr
  go_wp2_with fail
  refine (samefields_yes a1 a len len c1 cap cs its _ hcl.out hl.out (by omega) hf1 (hat.below hb9) hshc.out hfd.out).mono ?_
  rintro e w10 ⟨rfl, hb10⟩
  replace hb10 := bnext hb9 hb10
  go_wp2_with fail
  refine (awake_any _).mono ?_
  rintro e w11 ⟨rfl, hb11⟩
  go_wp2
  go_ret
  exact ⟨rfl, bnext hb10 hb11⟩
end Go.Proofs.Ytkkdiciadkcmmaa
