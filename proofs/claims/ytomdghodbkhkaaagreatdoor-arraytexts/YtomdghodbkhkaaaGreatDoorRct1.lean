/- The document's cut: its drawn region. -/
import Derived.Test.YtomdghodbkhkaaaGreatDoorRct0
import Derived.Test.YtomdghodbkhkaaaGreatDoorRun
namespace Go.Proofs.YtomdghodbkhkaaaGreatDoor
open Go.RowKit
set_option linter.unusedVariables false
set_option linter.unusedSimpArgs false

theorem row_at {w : World} {base b m n cc : Nat} {xs : List Value} {u : Value} (h : w.ownsRow base 9 1 (.slice (some ⟨b, 0, none⟩) n cc) n xs) (hx : xs[m]? = some u) : w.cell? ⟨b, m, none⟩ = some u := by
  have := CAt.src (owns_cat h) m u hx
  cases m with
  | zero => simpa [Addr.add] using this
  | succ k => simpa [Addr.add] using this
theorem size_set (w : World) (p : Addr) (u : Value) : (w.setCell p u).heap.size = w.heap.size := by simp [World.setCell]
theorem back_one {w : World} {g : Nat} {B : UInt8} (h : w.heap[g]? = some (.cells #[.int .u8 (B.toNat : Int)] 5 (0, 0))) : (convert 82 9 (.slice (some ⟨g, 0, none⟩) 1 1)).run Tryz.prog w = .ok (.string ⟨#[B]⟩) w :=
  run_convert_bytes_back (P := Tryz.prog) _ 82 9 5 ⟨g, 0, none⟩ 1 [B] Tryz.underlying82 Tryz.underlying5 Tryz.underlying9 (fun j hj => by
    have hj0 : j = 0 := by simpa using hj
    subst hj0
    exact row_cell h 0 _ rfl)
def cv7 (w : World) (S ZB : ByteArray) (B : UInt8) (b m cc j : Nat) : Nat → Value → Prop
  | 0, v => v = .slice (some ⟨b, 0, none⟩) (m + 1) cc
  | 1, v => v = .slice (some ⟨b, 0, none⟩) (m + 1) cc
  | 2, v => v = .int .i64 ((m : Int) + 1)
  | 3, v => v = .int .i64 (m : Int)
  | 4, v => v = .slice (some ⟨b, 0, none⟩) (m + 1) cc
  | 5, v => v = .slice (some ⟨b, 0, none⟩) (m + 1) cc
  | 6, v => v = .int .i64 ((m : Int) + 1)
  | 7, v => v = .int .i64 (m : Int)
  | 8, v => v = .pointer (some ⟨b, m, none⟩)
  | 9, v => v = .string ZB
  | 10, v => v = .string S
  | 11, v => v = .int .i64 (j : Int)
  | 12, v => v = .int .u8 (B.toNat : Int)
  | 13, v => v = .slice (some ⟨w.heap.size, 0, none⟩) 1 1
  | 14, v => v = .string ⟨#[B]⟩
  | 15, v => v = .string (ZB ++ (⟨#[B]⟩ : ByteArray))
  | 16, v => v = .pointer (some ⟨b, m, none⟩)
  | _, _ => True

set_option maxRecDepth 100000 in
set_option maxHeartbeats 4000000 in
theorem cut_r7 {FF : Act → World → Prop} {w : World} {S ZB : ByteArray} {B : UInt8} {base b m cc j : Nat} {xs : List Value} {c1 c2 c3 c4 c7 c8 c9 c10 c11 c12 c13 c14 c15 c16 c17 c18 c19 c20 c21 c22 c23 c24 c25 c26 c27 c28 c29 c30 c31 c32 c33 c34 c35 c36 c37 c38 c39 : Value}
    (hix : Hid (∀ w, (Instr.index 9 (.string S) (.int .i64 (j : Int))).run Tryz.prog w = .ok (.int .u8 (B.toNat : Int)) w)) (hrow : Hid (w.ownsRow base 9 1 (.slice (some ⟨b, 0, none⟩) (m + 1) cc) (m + 1) xs)) (hxm : Hid (xs[m]? = some (.string ZB))) (hbw : b < w.heap.size) (hm : m ≤ 1000) (hzb : ZB.size ≤ 1000) (hjS : j < S.size)
    (hQ : Hid (∀ (d22 d23 d24 d25 d26 d27 d28 d29 d30 d31 d32 d33 d34 d35 d36 d37 d38 : Value) (w' : World), w'.ownsRow base 9 1 (.slice (some ⟨b, 0, none⟩) (m + 1) cc) (m + 1) (xs.set m (.string (ZB ++ (⟨#[B]⟩ : ByteArray)))) → Kp (fun k => k = b) w w' → FF ⟨#[.string S, c1, c2, c3, c4, .slice (some ⟨b, 0, none⟩) (m + 1) cc, .int .i64 (j : Int), c7, c8, c9, c10, c11, c12, c13, c14, c15, c16, c17, c18, c19, c20, c21, d22, d23, d24, d25, d26, d27, d28, d29, d30, d31, d32, d33, d34, d35, d36, d37, d38, c39], []⟩ w')) :
    Code.wp Tryz.prog ((Tryz.f20.body.bind (regAt 7)).getD .skip) (Nrm FF) ⟨#[.string S, c1, c2, c3, c4, .slice (some ⟨b, 0, none⟩) (m + 1) cc, .int .i64 (j : Int), c7, c8, c9, c10, c11, c12, c13, c14, c15, c16, c17, c18, c19, c20, c21, c22, c23, c24, c25, c26, c27, c28, c29, c30, c31, c32, c33, c34, c35, c36, c37, c38, c39], []⟩ w := by
  have hB1 : (⟨#[B]⟩ : ByteArray).size = 1 := rfl
  have lt1 : (m : Int) < (m : Int) + 1 := by omega
  have ngt : ¬ (9223372036854775807 < ZB.size + 1) := by omega
  have hwm : IntKind.i64.wrap (m : Int) = (m : Int) := by simp [IntKind.wrap, IntKind.bits, IntKind.signed]; omega
  conv => arg 2; whnf
  refine wp_region_alv (Wd := fun L _ w1 => (L 13 = false → w1.heap.size = w.heap.size) ∧ (L 13 = true → w1.heap[w.heap.size]? = some (.cells #[.int .u8 (B.toNat : Int)] 5 (0, 0))) ∧ w1.ownsRow base 9 1 (.slice (some ⟨b, 0, none⟩) (m + 1) cc) (m + 1) (if L 17 = true then xs.set m (.string (ZB ++ (⟨#[B]⟩ : ByteArray))) else xs) ∧ Kp (fun k => k = b) w w1) (Pv := cv7 w S ZB B b m cc j) (by kernel_rfl) (by kernel_rfl) ?_ ?_ ?_
  · intro L V2 hL
    refine ⟨fun _ => rfl, (fun h => by rw [hL 13] at h; cases h), ?_, Kp.of_below (drew_below w)⟩
    rw [hL 17, if_neg (by decide)]
    exact owns_below hrow.out (drew_below w)
  · refine ⟨?_, ?_, ?_, ?_, ?_, ?_, ?_, ?_, ?_, ?_, ?_, ?_, ?_, ?_, ?_, ?_, ?_, ?_, trivial⟩
    · intro ac w1 L hL hup hcl hW hdd hk Kx hK
      refine yes (want_n rfl) (wp_mv _ rfl _ (get_keep (hk 5 (no_dst (by kernel_rfl))) rfl) ?_)
      exact hK _ _ (fun _ => rfl) (fun L2 V2 i1 i2 i3 i4 => ⟨fun h => hW.1 (by rw [← i2 13 (by decide)]; exact h), fun h => hW.2.1 (by rw [← i2 13 (by decide)]; exact h), by rw [i2 17 (by decide)]; exact hW.2.2.1, hW.2.2.2⟩)
    · intro ac w1 L hL hup hcl hW hdd hk Kx hK
      refine yes (want_n rfl) (wp_mv _ rfl _ (get_keep (hk 5 (no_dst (by kernel_rfl))) rfl) ?_)
      exact hK _ _ (fun _ => rfl) (fun L2 V2 i1 i2 i3 i4 => ⟨fun h => hW.1 (by rw [← i2 13 (by decide)]; exact h), fun h => hW.2.1 (by rw [← i2 13 (by decide)]; exact h), by rw [i2 17 (by decide)]; exact hW.2.2.1, hW.2.2.2⟩)
    · intro ac w1 L hL hup hcl hW hdd hk Kx hK
      have e23 : ac.tmps[23]?.getD undef = (.slice (some ⟨b, 0, none⟩) (m + 1) cc : Value) := slot (hdd 1 _ 23 rfl rfl rfl)
      refine yes (want_n rfl) ?_
      have hv := hid (hK (.int .i64 ((m : Int) + 1)) w1 (fun _ => rfl) (fun L2 V2 i1 i2 i3 i4 => ⟨fun h => hW.1 (by rw [← i2 13 (by decide)]; exact h), fun h => hW.2.1 (by rw [← i2 13 (by decide)]; exact h), by rw [i2 17 (by decide)]; exact hW.2.2.1, hW.2.2.2⟩))
      clear hK hW hL hup hdd hk hcl
      go_simp
      exact kq hv.out rfl
    · intro ac w1 L hL hup hcl hW hdd hk Kx hK
      have e24 : ac.tmps[24]?.getD undef = (.int .i64 ((m : Int) + 1) : Value) := slot (hdd 2 _ 24 rfl rfl rfl)
      refine yes (want_n rfl) ?_
      have hv := hid (hK (.int .i64 (m : Int)) w1 (fun _ => rfl) (fun L2 V2 i1 i2 i3 i4 => ⟨fun h => hW.1 (by rw [← i2 13 (by decide)]; exact h), fun h => hW.2.1 (by rw [← i2 13 (by decide)]; exact h), by rw [i2 17 (by decide)]; exact hW.2.2.1, hW.2.2.2⟩))
      clear hK hW hL hup hdd hk hcl
      go_simp
      exact kq hv.out rfl
    · intro ac w1 L hL hup hcl hW hdd hk Kx hK
      refine yes (want_n rfl) (wp_mv _ rfl _ (get_keep (hk 5 (no_dst (by kernel_rfl))) rfl) ?_)
      exact hK _ _ (fun _ => rfl) (fun L2 V2 i1 i2 i3 i4 => ⟨fun h => hW.1 (by rw [← i2 13 (by decide)]; exact h), fun h => hW.2.1 (by rw [← i2 13 (by decide)]; exact h), by rw [i2 17 (by decide)]; exact hW.2.2.1, hW.2.2.2⟩)
    · intro ac w1 L hL hup hcl hW hdd hk Kx hK
      refine yes (want_n rfl) (wp_mv _ rfl _ (get_keep (hk 5 (no_dst (by kernel_rfl))) rfl) ?_)
      exact hK _ _ (fun _ => rfl) (fun L2 V2 i1 i2 i3 i4 => ⟨fun h => hW.1 (by rw [← i2 13 (by decide)]; exact h), fun h => hW.2.1 (by rw [← i2 13 (by decide)]; exact h), by rw [i2 17 (by decide)]; exact hW.2.2.1, hW.2.2.2⟩)
    · intro ac w1 L hL hup hcl hW hdd hk Kx hK
      have e27 : ac.tmps[27]?.getD undef = (.slice (some ⟨b, 0, none⟩) (m + 1) cc : Value) := slot (hdd 5 _ 27 rfl rfl rfl)
      refine yes (want_n rfl) ?_
      have hv := hid (hK (.int .i64 ((m : Int) + 1)) w1 (fun _ => rfl) (fun L2 V2 i1 i2 i3 i4 => ⟨fun h => hW.1 (by rw [← i2 13 (by decide)]; exact h), fun h => hW.2.1 (by rw [← i2 13 (by decide)]; exact h), by rw [i2 17 (by decide)]; exact hW.2.2.1, hW.2.2.2⟩))
      clear hK hW hL hup hdd hk hcl
      go_simp
      exact kq hv.out rfl
    · intro ac w1 L hL hup hcl hW hdd hk Kx hK
      have e28 : ac.tmps[28]?.getD undef = (.int .i64 ((m : Int) + 1) : Value) := slot (hdd 6 _ 28 rfl rfl rfl)
      refine yes (want_n rfl) ?_
      have hv := hid (hK (.int .i64 (m : Int)) w1 (fun _ => rfl) (fun L2 V2 i1 i2 i3 i4 => ⟨fun h => hW.1 (by rw [← i2 13 (by decide)]; exact h), fun h => hW.2.1 (by rw [← i2 13 (by decide)]; exact h), by rw [i2 17 (by decide)]; exact hW.2.2.1, hW.2.2.2⟩))
      clear hK hW hL hup hdd hk hcl
      go_simp
      exact kq hv.out rfl
    · intro ac w1 L hL hup hcl hW hdd hk Kx hK
      have e26 : ac.tmps[26]?.getD undef = (.slice (some ⟨b, 0, none⟩) (m + 1) cc : Value) := slot (hdd 4 _ 26 rfl rfl rfl)
      have e29 : ac.tmps[29]?.getD undef = (.int .i64 (m : Int) : Value) := slot (hdd 7 _ 29 rfl rfl rfl)
      refine yes (want_n rfl) ?_
      have hv := hid (hK (.pointer (some ⟨b, m, none⟩)) w1 (fun _ => rfl) (fun L2 V2 i1 i2 i3 i4 => ⟨fun h => hW.1 (by rw [← i2 13 (by decide)]; exact h), fun h => hW.2.1 (by rw [← i2 13 (by decide)]; exact h), by rw [i2 17 (by decide)]; exact hW.2.2.1, hW.2.2.2⟩))
      clear hK hW hL hup hdd hk hcl
      go_simp
      exact kq hv.out rfl
    · intro ac w1 L hL hup hcl hW hdd hk Kx hK
      have e30 : ac.tmps[30]?.getD undef = (.pointer (some ⟨b, m, none⟩) : Value) := slot (hdd 8 _ 30 rfl rfl rfl)
      have h17 : L 17 = false := not_yet hcl 12 (j := 9) (by kernel_rfl) hL
      have hrw := hW.2.2.1
      rw [if_neg (by rw [h17]; decide)] at hrw
      have x0 := row_at hrw (hxm.out)
      refine yes (want_n rfl) ?_
      have hv := hid (hK (.string ZB) w1 (fun _ => rfl) (fun L2 V2 i1 i2 i3 i4 => ⟨fun h => hW.1 (by rw [← i2 13 (by decide)]; exact h), fun h => hW.2.1 (by rw [← i2 13 (by decide)]; exact h), by rw [i2 17 (by decide)]; exact hW.2.2.1, hW.2.2.2⟩))
      clear hK hW hL hup hdd hk hcl
      go_simp
      exact kq hv.out rfl
    · intro ac w1 L hL hup hcl hW hdd hk Kx hK
      refine yes (want_n rfl) (wp_mv _ rfl _ (get_keep (hk 0 (no_dst (by kernel_rfl))) rfl) ?_)
      exact hK _ _ (fun _ => rfl) (fun L2 V2 i1 i2 i3 i4 => ⟨fun h => hW.1 (by rw [← i2 13 (by decide)]; exact h), fun h => hW.2.1 (by rw [← i2 13 (by decide)]; exact h), by rw [i2 17 (by decide)]; exact hW.2.2.1, hW.2.2.2⟩)
    · intro ac w1 L hL hup hcl hW hdd hk Kx hK
      refine yes (want_n rfl) (wp_mv _ rfl _ (get_keep (hk 6 (no_dst (by kernel_rfl))) rfl) ?_)
      exact hK _ _ (fun _ => rfl) (fun L2 V2 i1 i2 i3 i4 => ⟨fun h => hW.1 (by rw [← i2 13 (by decide)]; exact h), fun h => hW.2.1 (by rw [← i2 13 (by decide)]; exact h), by rw [i2 17 (by decide)]; exact hW.2.2.1, hW.2.2.2⟩)
    · intro ac w1 L hL hup hcl hW hdd hk Kx hK
      have e32 : ac.tmps[32]?.getD undef = (.string S : Value) := slot (hdd 10 _ 32 rfl rfl rfl)
      have e33 : ac.tmps[33]?.getD undef = (.int .i64 (j : Int) : Value) := slot (hdd 11 _ 33 rfl rfl rfl)
      have y0 := fun w => hix.out w
      refine yes (want_n rfl) ?_
      have hv := hid (hK (.int .u8 (B.toNat : Int)) w1 (fun _ => rfl) (fun L2 V2 i1 i2 i3 i4 => ⟨fun h => hW.1 (by rw [← i2 13 (by decide)]; exact h), fun h => hW.2.1 (by rw [← i2 13 (by decide)]; exact h), by rw [i2 17 (by decide)]; exact hW.2.2.1, hW.2.2.2⟩))
      clear hK hW hL hup hdd hk hcl
      go_simp
      exact kq hv.out rfl
    · intro ac w1 L hL hup hcl hW hdd hk Kx hK
      have e34 : ac.tmps[34]?.getD undef = (.int .u8 (B.toNat : Int) : Value) := slot (hdd 12 _ 34 rfl rfl rfl)
      have hs13 := hW.1 hL
      have hal := heap_alloc_new w1 (.cells #[.int .u8 (B.toNat : Int)] 5)
      rw [hs13] at hal
      have bl := below_lit w1 (.cells #[.int .u8 (B.toNat : Int)] 5)
      have hrw := owns_below hW.2.2.1 bl
      have hkk := hW.2.2.2.then bl
      refine yes (want_n rfl) ?_
      have hv := hid (hK (.slice (some ⟨w.heap.size, 0, none⟩) 1 1) (w1.alloc (.cells #[.int .u8 (B.toNat : Int)] 5)) (fun _ => rfl) (fun L2 V2 i1 i2 i3 i4 => ⟨fun h => absurd (h.symm.trans i1) (by decide), fun _ => hal, by rw [i2 17 (by decide)]; exact hrw, hkk⟩))
      clear hK hW hL hup hdd hk hcl hal bl hrw hkk
      go_simp
      exact kq hv.out rfl
    · intro ac w1 L hL hup hcl hW hdd hk Kx hK
      have h13 : L 13 = true := up_of hup (by kernel_rfl)
      have hbk := hW.2.1 h13
      have e35 : ac.tmps[35]?.getD undef = (.slice (some ⟨w.heap.size, 0, none⟩) 1 1 : Value) := slot (hdd 13 _ 35 rfl rfl rfl)
      have hcv := back_one hbk
      refine yes (want_n rfl) ?_
      have hv := hid (hK (.string ⟨#[B]⟩) w1 (fun _ => rfl) (fun L2 V2 i1 i2 i3 i4 => ⟨fun h => hW.1 (by rw [← i2 13 (by decide)]; exact h), fun h => hW.2.1 (by rw [← i2 13 (by decide)]; exact h), by rw [i2 17 (by decide)]; exact hW.2.2.1, hW.2.2.2⟩))
      clear hK hW hL hup hdd hk hcl hbk
      go_simp
      exact kq hv.out rfl
    · intro ac w1 L hL hup hcl hW hdd hk Kx hK
      have e31 : ac.tmps[31]?.getD undef = (.string ZB : Value) := slot (hdd 9 _ 31 rfl rfl rfl)
      have e36 : ac.tmps[36]?.getD undef = (.string ⟨#[B]⟩ : Value) := slot (hdd 14 _ 36 rfl rfl rfl)
      refine yes (want_n rfl) ?_
      have hv := hid (hK (.string (ZB ++ (⟨#[B]⟩ : ByteArray))) w1 (fun _ => rfl) (fun L2 V2 i1 i2 i3 i4 => ⟨fun h => hW.1 (by rw [← i2 13 (by decide)]; exact h), fun h => hW.2.1 (by rw [← i2 13 (by decide)]; exact h), by rw [i2 17 (by decide)]; exact hW.2.2.1, hW.2.2.2⟩))
      clear hK hW hL hup hdd hk hcl
      go_simp
      exact kq hv.out rfl
    · intro ac w1 L hL hup hcl hW hdd hk Kx hK
      have e22 : ac.tmps[22]?.getD undef = (.slice (some ⟨b, 0, none⟩) (m + 1) cc : Value) := slot (hdd 0 _ 22 rfl rfl rfl)
      have e25 : ac.tmps[25]?.getD undef = (.int .i64 (m : Int) : Value) := slot (hdd 3 _ 25 rfl rfl rfl)
      refine yes (want_n rfl) ?_
      have hv := hid (hK (.pointer (some ⟨b, m, none⟩)) w1 (fun _ => rfl) (fun L2 V2 i1 i2 i3 i4 => ⟨fun h => hW.1 (by rw [← i2 13 (by decide)]; exact h), fun h => hW.2.1 (by rw [← i2 13 (by decide)]; exact h), by rw [i2 17 (by decide)]; exact hW.2.2.1, hW.2.2.2⟩))
      clear hK hW hL hup hdd hk hcl
      go_simp
      exact kq hv.out rfl
    · intro ac w1 L hL hup hcl hW hdd hk Kx hK
      have hrw := hW.2.2.1
      rw [if_neg (by rw [hL]; decide)] at hrw
      have x0 := row_at hrw (hxm.out)
      obtain ⟨g2, c2, z1, _, _, _, z5⟩ := owns_spot hrw (Nat.succ_pos m)
      simp only [Value.slice.injEq, Option.some.injEq, Addr.mk.injEq] at z1
      obtain ⟨⟨z1, _⟩, _⟩ := z1
      have f0 := z5 m
      rw [← z1] at f0
      have hput := owns_put hrw (i := m) (by omega) (.string (ZB ++ (⟨#[B]⟩ : ByteArray)))
      have hkk := Kp.setCell (S := fun k => k = b) (p := ⟨b, m, none⟩) hW.2.2.2 rfl (.string (ZB ++ (⟨#[B]⟩ : ByteArray)))
      have e38 : ac.tmps[38]?.getD undef = (.pointer (some ⟨b, m, none⟩) : Value) := slot (hdd 16 _ 38 rfl rfl rfl)
      have e37 : ac.tmps[37]?.getD undef = (.string (ZB ++ (⟨#[B]⟩ : ByteArray)) : Value) := slot (hdd 15 _ 37 rfl rfl rfl)
      refine yes (want_n rfl) ?_
      have hv := hid (hK undef (w1.setCell ⟨b, m, none⟩ (.string (ZB ++ (⟨#[B]⟩ : ByteArray)))) (fun h => absurd rfl h) (fun L2 V2 i1 i2 i3 i4 => ⟨fun h => by rw [size_set]; exact hW.1 (by rw [← i2 13 (by decide)]; exact h), fun h => by rw [Below.heap_setCell _ _ _ _ (by show w.heap.size ≠ b; omega)]; exact hW.2.1 (by rw [← i2 13 (by decide)]; exact h), by rw [if_pos i1]; exact hput, hkk⟩))
      clear hK hW hup hdd hk hcl hput hkk hrw z1 z5
      go_simp
      exact hv.out
  · intro ac w1 hdf hsz hkp hval hW
    obtain ⟨L, hall, hW⟩ := hW
    obtain ⟨ff, hf⟩ : ∃ ff, ff = fun d => ac.tmps.getD d undef := ⟨_, rfl⟩
    have hfa := act_filled hdf hsz hkp
    rw [← hf] at hfa
    rw [hfa]
    clear hdf hsz hkp hval hfa hf
    clear ac
    simp only [fillAll, List.set_cons_zero, List.set_cons_succ]
    rw [hall 17 (by decide), if_pos rfl] at hW
    exact hQ.out _ _ _ _ _ _ _ _ _ _ _ _ _ _ _ _ _ w1 hW.2.2.1 hW.2.2.2
end Go.Proofs.YtomdghodbkhkaaaGreatDoor
