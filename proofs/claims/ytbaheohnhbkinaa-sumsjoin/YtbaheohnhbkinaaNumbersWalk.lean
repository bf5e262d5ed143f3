/- The fixed answers that every statement asks (awake), and SumsNumbers's Go text: true, whatever the memory. -/
import Derived.Test.YtbaheohnhbkinaaSums
import Derived.Lib.SlBytesConst
namespace Go.Proofs.Ytbaheohnhbkinaa
open Go.RowKit

theorem hid {p : Prop} (h : p) : Hid p := h

theorem fixed1 : crcOf [49, 50, 51, 52, 53, 54, 55, 56, 57] = 3421780262 := by decide +kernel
theorem fixed2 : adlerOf [87, 105, 107, 105, 112, 101, 100, 105, 97] = 300286872 := by decide +kernel
theorem fixed3 : crcOf [] = 0 := by decide +kernel
theorem fixed4 : moreOf (crcOf [49, 50, 51, 52]) [53, 54, 55, 56, 57] = 3421780262 := by decide +kernel
theorem fixed5 : adlerOf [] = 1 := by decide +kernel
theorem fixed6 : adlerOf [1] = 131074 := by decide +kernel
theorem fixed7 : crcOf [0] = 3523407757 := by decide +kernel

theorem crc_of (N len cap : Nat) (a : Option Addr) (l : List UInt8) (w : World) (he : crcOf l = N) (hl : l.length = len) (hlen : len ≤ 4611686018427387904) (hat : At w a l) :
    Calls Try.prog 7 #[.slice a len cap] w fun e w' => e = .returned (.int .u32 (N : Int)) ∧ Below w.heap.size w w' := by
  subst he; exact crc_any len cap a l w hl hlen hat

theorem more_of (N s len cap : Nat) (a : Option Addr) (l : List UInt8) (w : World) (he : moreOf s l = N) (hs : s < 4294967296) (hl : l.length = len) (hlen : len ≤ 4611686018427387904) (hat : At w a l) :
    Calls Try.prog 8 #[.int .u32 (s : Int), .slice a len cap] w fun e w' => e = .returned (.int .u32 (N : Int)) ∧ Below w.heap.size w w' := by
  subst he; exact more_any s len cap a l w hs hl hlen hat

theorem adler_of (N len cap : Nat) (a : Option Addr) (l : List UInt8) (w : World) (he : adlerOf l = N) (hl : l.length = len) (hlen : len ≤ 4611686018427387904) (hat : At w a l) :
    Calls Try.prog 9 #[.slice a len cap] w fun e w' => e = .returned (.int .u32 (N : Int)) ∧ w' = w := by
  subst he; exact adler_any len cap a l w hl hlen hat

/-- A literal's bytes, whatever its mark. -/
theorem at_mark (w : World) (l : List UInt8) (cs : Array Value) (m : Nat × Nat) (h : cs = (l.map B).toArray) : At (w.alloc (.cells cs 5 m)) (some ⟨w.heap.size, 0, none⟩) l := by
  subst h
  refine fun _ => ⟨w.heap.size, 0, rfl, fun i hi => ?_⟩
  have hh : (w.alloc (.cells (l.map B).toArray 5 m)).heap[w.heap.size]? = some (.cells (l.map B).toArray 5 m) := by
    show (w.heap.push _)[w.heap.size]? = _
    simp
  rw [Nat.zero_add]
  unfold World.cell?
  simp only [hh]
  simp [hi, B]

/-- '[]byte("..")'. -/
theorem const_run (w : World) (C : Array Value) (n c : Nat) : (convert 25 25 (.slice (some ⟨w.heap.size, 0, none⟩) n c)).run Try.prog (w.alloc (.cells C 5)) = .ok (.slice (some ⟨w.heap.size, 0, none⟩) n c) (w.alloc (.cells C 5 (C.size, C.size + 1))) :=
  Lib.run_convert_bytes_const (P := Try.prog) w 25 5 C n c Try.underlying25 Try.underlying5

set_option maxHeartbeats 400000 in
theorem awake_any (w : World) : Calls Try.prog 12 #[] w fun e w' => e = .returned (.bool true) ∧ Below w.heap.size w w' := by
  have kc := const_run
  go_enter Try.func12, Try.ntmps12
  go_wp2_with fail
  refine (crc_of 3421780262 9 9 _ [49, 50, 51, 52, 53, 54, 55, 56, 57] _ fixed1 rfl (by omega) (at_mark w _ _ _ rfl)).mono ?_
  rintro e w1 ⟨rfl, hb1⟩
  go_wp2_with fail
  refine (adler_of 300286872 9 9 _ [87, 105, 107, 105, 112, 101, 100, 105, 97] _ fixed2 rfl (by omega) (at_mark w1 _ _ _ rfl)).mono ?_
  rintro e w2 ⟨rfl, rfl⟩
  go_wp2
  go_ret
  exact ⟨rfl, bnext (bnext (below_lit w _) hb1) (below_lit w1 _)⟩

/-- The first k bytes 255, the others 0. -/
def half (k : Nat) : List UInt8 := List.replicate k 255 ++ List.replicate (700 - k) 0

theorem half_len (k : Nat) (h : k ≤ 700) : (half k).length = 700 := by simp [half]; omega

theorem half_set (k : Nat) (h : k < 700) : (half k).set k 255 = half (k + 1) := by
  unfold half
  obtain ⟨m, hm⟩ : ∃ m, 700 - k = m + 1 := ⟨699 - k, by omega⟩
  have hm2 : 700 - (k + 1) = m := by omega
  rw [hm, hm2, List.set_append_right _ _ (by simp), List.length_replicate, Nat.sub_self, List.replicate_succ (n := m), List.set_cons_zero, List.replicate_succ' (n := k), List.append_assoc]
  rfl

theorem half_zero : half 0 = List.replicate 700 0 := by unfold half; rw [List.replicate_zero, List.nil_append]

set_option maxRecDepth 100000 in
set_option maxHeartbeats 400000 in
theorem full_any (w : World) : Calls Try.prog 10 #[] w fun e w' => ∃ g, e = .returned (.slice (some ⟨g, 0, none⟩) 700 700) ∧ Row w' g (half 700) ∧ Below w.heap.size w w' := by
  obtain ⟨i0, hi, hz0, hz1, hz2⟩ := info_parts info5
  go_enter Try.func10, Try.ntmps10
  go_wp2_with (at_make; refine wpList_make_full _ rfl (.const (.int .i64 700)) (.const (.int .i64 700)) 25 rfl w.heap.size 5 i0 (.int .u8 0) 1 Try.underlying25 hi hz0 hz1 .i64 .i64 _ _ 700 rfl rfl (by omega) (by omega) (by rw [hz2]; omega) (by unfold maxLen; omega) (Nat.le_refl _) ?_; intro w1 hown hgrow; have hrow := row_made hown; have hb1 := (Below.refl _ _).grown hgrow (Nat.le_refl _) (fun k hk => by cases hk); clear hown hgrow)
  go_loopw [2] (fun i wr => ∃ k : Nat, k ≤ 700 ∧ i = .int .i64 k ∧ Row wr w.heap.size (half k) ∧ Below w.heap.size w wr) (fun i _ => 700 - (intOf i).toNat)
  case atStart => exact ⟨0, Nat.zero_le _, rfl, by rw [half_zero]; exact hrow, hb1⟩
  case round =>
    clear hrow hb1
    obtain ⟨k, hk, rfl, hr, hb⟩ := hrel
    by_cases hlt : k < 700
    · obtain ⟨v, hcx⟩ : ∃ v, wr.cell? ⟨w.heap.size, k, none⟩ = some v := ⟨_, hr.cell k (by rw [half_len k hk]; exact hlt)⟩
      have hfx := hr.free k
      replace hr := hid hr
      go_wp2
      go_roundw
      case rel => exact ⟨k + 1, by omega, by go_num, by rw [← half_set k hlt]; exact hr.out.set k 255, hb.setCell (show w.heap.size ≤ (⟨w.heap.size, k, none⟩ : Addr).block from Nat.le_refl _) _⟩
      case measure => simp [intOf]; omega
    · have hkn : k = 700 := by omega
      have hr' : Row wr w.heap.size (half 700) := hkn ▸ hr
      clear hr hkn
      replace hr' := hid hr'
      go_wp2
      go_ret
      exact ⟨_, rfl, hr'.out, hb⟩

set_option maxRecDepth 100000 in
set_option maxHeartbeats 1000000 in
theorem numbers_any (w : World) : Calls Try.prog 3 #[] w fun e w' => e = .returned (.bool true) ∧ Below w.heap.size w w' := by
  have kc := const_run
  go_enter Try.func3, Try.ntmps3
  go_wp2_with fail
  refine (crc_of 0 0 0 none [] _ fixed3 rfl (by omega) (at_nil _ _)).mono ?_
  rintro e w1 ⟨rfl, hb1⟩
  go_wp2_with fail
  refine (crc_any 4 4 _ [49, 50, 51, 52] _ rfl (by omega) (at_mark w1 _ _ _ rfl)).mono ?_
  rintro e w2 ⟨rfl, hb2⟩
  go_wp2_with fail
  refine (more_of 3421780262 _ 5 5 _ [53, 54, 55, 56, 57] _ fixed4 (moreOf_lt _ _) rfl (by omega) (at_mark w2 _ _ _ rfl)).mono ?_
  rintro e w3 ⟨rfl, hb3⟩
  go_wp2_with fail
  refine (adler_of 1 0 0 none [] _ fixed5 rfl (by omega) (at_nil _ _)).mono ?_
  rintro e w4 ⟨rfl, rfl⟩
  go_wp2_with fail
  refine (full_any _).mono ?_
  rintro e w5 ⟨g5, rfl, hr5, hb5⟩
  go_wp2_with fail
  refine (adler_any 700 700 _ (half 700) _ (half_len 700 (by omega)) (by omega) hr5.at).mono ?_
  rintro e w6 ⟨rfl, rfl⟩
  go_wp2_with fail
  refine (full_any _).mono ?_
  rintro e w7 ⟨g7, rfl, hr7, hb7⟩
  go_wp2_with fail
  refine (refadler_any 700 700 _ (half 700) _ (half_len 700 (by omega)) (by omega) hr7.at).mono ?_
  rintro e w8 ⟨rfl, rfl⟩
  go_wp2_with fail
  refine (adler_of 131074 1 1 _ [1] _ fixed6 rfl (by omega) (at_lit _ _ _ rfl)).mono ?_
  rintro e w9 ⟨rfl, rfl⟩
  go_wp2_with fail
  refine (crc_of 3523407757 1 1 _ [0] _ fixed7 rfl (by omega) (at_lit' _ _ _ _ (by simp) rfl)).mono ?_
  rintro e w10 ⟨rfl, hb10⟩
  go_wp2_with fail
  refine (awake_any _).mono ?_
  rintro e w11 ⟨rfl, hb11⟩
  go_wp2
  go_ret
  exact ⟨rfl, bnext (bnext (bnext (bnext (bnext (bnext (bnext (bnext (bnext (bnext hb1 (below_lit _ _)) hb2) (below_lit _ _)) hb3) hb5) hb7) (below_lit _ _)) (below_lit _ _)) hb10) hb11⟩
end Go.Proofs.Ytbaheohnhbkinaa
