/- What the writers of numbers (longer, put, add, Add8 to Add64) answer: new memory with the bytes asked for, nothing old turned; for every slice of bytes of at most 2^47 elements and every number. -/
import Derived.Test.YtdchmffkbiaeaaaMem
import Derived.Laws.CopyOwn
namespace Go.Proofs.Ytdchmffkbiaeaaa
open Go.RowKit

/-- A byte's cell. -/
def B (x : UInt8) : Value := .int .u8 (x.toNat : Int)

/-- Block g is a row that is known whole: the bytes l. -/
def Row (w : World) (g : Nat) (l : List UInt8) : Prop := w.heap[g]? = some (.cells (l.map B).toArray 5 (0, 0))

theorem Row.cell {w : World} {g : Nat} {l : List UInt8} (h : Row w g l) (i : Nat) (hi : i < l.length) : w.cell? ⟨g, i, none⟩ = some (.int .u8 (l[i].toNat : Int)) := by
  unfold Row at h
  simp [World.cell?, h, hi, B]

theorem Row.free {w : World} {g : Nat} {l : List UInt8} (h : Row w g l) (i : Nat) : w.frozen? ⟨g, i, none⟩ = false := by
  unfold Row at h
  simp [World.frozen?, h]

theorem Row.at {w : World} {g : Nat} {l : List UInt8} (h : Row w g l) : At w (some ⟨g, 0, none⟩) l := fun _ => ⟨g, 0, rfl, fun i hi => by rw [Nat.zero_add]; exact h.cell i hi⟩

theorem Row.lt {w : World} {g : Nat} {l : List UInt8} (h : Row w g l) : g < w.heap.size := by
  rcases Nat.lt_or_ge g w.heap.size with h2 | h2
  · exact h2
  · unfold Row at h; simp [Array.getElem?_eq_none h2] at h

theorem Row.below {w w' : World} {g : Nat} {l : List UInt8} (h : Row w g l) (hb : Below w.heap.size w w') : Row w' g l := by
  unfold Row; rw [hb.block g h.lt]; exact h

theorem Row.set {w : World} {g : Nat} {l : List UInt8} (h : Row w g l) (i : Nat) (x : UInt8) : Row (w.setCell ⟨g, i, none⟩ (B x)) g (l.set i x) := by
  unfold Row at *
  rw [setCell_eq_setRow w g i _ 5 (0, 0) (B x) h, setRow_heap w g _ _ 5 _ h]
  simp [List.map_set]

theorem info5 : (Try.prog.info? 5).map (fun i => (i.zero, i.size, i.bytes)) = some (some (.int .u8 0), 1, 1) := by kernel_rfl
theorem size5 : (Try.prog.info? 5).map (·.size) = some 1 := by kernel_rfl

theorem row_made {w : World} {base g n : Nat} (h : w.ownsRow base 5 1 (.slice (some ⟨g, 0, none⟩) n n) n (madeCells (Value.cells (.int .u8 0)) (n * 1)).toList) : Row w g (List.replicate n 0) := by
  obtain ⟨h1, h2⟩ := h
  rcases h2 with ⟨h3, _⟩ | ⟨g', cap, cur, hv, _, hh, _, _, hs, ht⟩
  · cases h3
  · simp at hv
    obtain ⟨rfl, rfl⟩ := hv
    unfold Row
    rw [hh]
    have e : cur.toList = List.replicate n (Value.int .u8 0) := by
      rw [List.take_of_length_le (by simp; omega)] at ht
      rw [ht]
      simp only [madeCells, Value.cells, Array.toList_map, Array.toList_range, Nat.mul_one]
      apply List.ext_getElem
      · simp
      · intro i h1 h2
        simp [Nat.mod_one]
    congr 2
    apply Array.toList_inj.1
    rw [e]
    simp [B]

/-- The bytes behind copying l over z from place o on. -/
def over (z : List UInt8) (o : Nat) (l : List UInt8) : List UInt8 := z.take o ++ l ++ z.drop (o + l.length)

theorem over_length (z : List UInt8) (o : Nat) (l : List UInt8) (h : o + l.length ≤ z.length) : (over z o l).length = z.length := by
  unfold over; simp; omega

theorem row_setRow {w : World} {g o : Nat} {z l : List UInt8} (h : Row w g z) :
    Row (w.setRow g ((z.map B).toArray.toList.take (o + 0) ++ l.map B ++ (z.map B).toArray.toList.drop (o + 0 + (l.map B).length)).toArray) g (over z o l) := by
  unfold Row at *
  rw [setRow_heap w g _ _ 5 _ h]
  simp [over, List.map_take, List.map_drop]

theorem store_run (w : World) (g o : Nat) (z l : List UInt8) (h : Row w g z) (hf : o + l.length ≤ z.length) :
    ∃ w2, (storeCells ⟨g, o, none⟩ (l.map B) 0).run Try.prog w = .ok () w2 ∧ Row w2 g (over z o l) ∧ Below g w w2 ∧ w2.heap.size = w.heap.size := by
  refine ⟨_, run_storeCells_at Try.prog g o 5 (l.map B) 0 _ w h (by simpa using hf) (by intro v hv; simp at hv; obtain ⟨x, _, rfl⟩ := hv; rfl), row_setRow h, below_setRow (Below.refl _ _) (Nat.le_refl _) _, by simp [World.setRow]⟩

theorem copy_run (w : World) (g o : Nat) (z l : List UInt8) (h : Row w g z) (dLen dCap sCap : Nat) (a : Option Addr) (hd : l.length ≤ dLen) (hf : o + dLen ≤ z.length) (hat : At w a l) :
    ∃ w2, (Builtin.copy_ #[25, 25] 3 #[.slice (some ⟨g, o, none⟩) dLen dCap, .slice a l.length sCap]).run Try.prog w = .ok (goInt l.length) w2 ∧ Row w2 g (over z o l) ∧ Below g w w2 ∧ w2.heap.size = w.heap.size := by
  obtain ⟨w2, hs, h1, h2, h3⟩ := store_run w g o z l h (by omega)
  refine ⟨w2, ?_, h1, h2, h3⟩
  have hmin : Nat.min l.length dLen = l.length := Nat.min_eq_left hd
  obtain ⟨i0, hi, hz0, hz1, hz2⟩ := info_parts info5
  by_cases e : l = []
  · subst e
    have hl : ∀ (x : Addr), (loadCells x 0).run Try.prog w = .ok #[] w := fun x => by simpa using run_loadCells_list (P := Try.prog) w x [] (by simp)
    cases a <;> simp [Builtin.copy_, run_underlying Try.underlying25, Builtin.lenOf, Builtin.firstCells, sizeOf, typeInfo, hi, hl] at hs ⊢ <;> simp [hs]
  · obtain ⟨b, q, rfl, hc⟩ := hat e
    have hl := run_loadCells_list (P := Try.prog) w ⟨b, q, none⟩ (l.map B) (fun j v hj => by
      have hjl : j < l.length := by
        rcases Nat.lt_or_ge j l.length with h | h
        · exact h
        · simp [List.getElem?_eq_none (show (l.map B).length ≤ j by simpa using h)] at hj
      have hplain : (⟨b, q, none⟩ : Addr).add j = ⟨b, q + j, none⟩ := by unfold Addr.add; split <;> simp_all
      rw [hplain, hc j hjl]
      simp [List.getElem?_eq_getElem hjl] at hj
      subst hj
      rfl)
    simp only [List.length_map] at hl
    simp [Builtin.copy_, run_underlying Try.underlying25, Builtin.lenOf, Builtin.firstCells, sizeOf, typeInfo, hi, hz1, hmin, hl, hs]

theorem copy_string_run (w : World) (g o : Nat) (z : List UInt8) (s : ByteArray) (h : Row w g z) (dLen dCap : Nat) (hd : s.size ≤ dLen) (hf : o + dLen ≤ z.length) :
    ∃ w2, (Builtin.copy_ #[25, 9] 3 #[.slice (some ⟨g, o, none⟩) dLen dCap, .string s]).run Try.prog w = .ok (goInt s.size) w2 ∧ Row w2 g (over z o s.data.toList) ∧ Below g w w2 ∧ w2.heap.size = w.heap.size := by
  have hsz : s.data.toList.length = s.size := by simp
  obtain ⟨w2, hs, h1, h2, h3⟩ := store_run w g o z s.data.toList h (by omega)
  refine ⟨w2, ?_, h1, h2, h3⟩
  have hmin : Nat.min s.size dLen = s.size := Nat.min_eq_left hd
  obtain ⟨i0, hi, hz0, hz1, hz2⟩ := info_parts info5
  have htk : List.take s.size (List.map (fun b : UInt8 => Value.int IntKind.u8 (b.toNat : Int)) s.data.toList) = s.data.toList.map B := by
    rw [List.take_of_length_le (by rw [List.length_map]; omega)]
    rfl
  simp [Builtin.copy_, run_underlying Try.underlying25, Builtin.lenOf, Builtin.firstCells, sizeOf, typeInfo, hi, hmin]
  rw [htk, hs]
  simp [Result.andThen]

set_option maxHeartbeats 400000 in
theorem longer_any (a : Option Addr) (cap len m : Nat) (l : List UInt8) (w : World) (hl : l.length = len) (hlen : len + m ≤ 281474976710656) (hat : At w a l) :
    Calls Try.prog 27 #[.slice a len cap, .int .i64 m] w fun e w' => e = .returned (.slice (some ⟨w.heap.size, 0, none⟩) (len + m) (len + m)) ∧ Row w' w.heap.size (l ++ List.replicate m 0) ∧ Below w.heap.size w w' := by
  subst hl
  obtain ⟨i0, hi, hz0, hz1, hz2⟩ := info_parts info5
  go_enter Try.func27, Try.ntmps27
  go_wp2_with (at_make; refine wpList_make_full _ rfl (.tmp 9) (.tmp 9) 25 rfl w.heap.size 5 i0 (.int .u8 0) 1 Try.underlying25 hi hz0 hz1 .i64 .i64 _ _ (l.length + m) rfl rfl (by omega) (by omega) (by rw [hz2]; omega) (by unfold maxLen; omega) (Nat.le_refl _) ?_; intro w1 hown hgrow; have hrow := row_made hown; have hb1 := (Below.refl _ _).grown hgrow (Nat.le_refl _) (fun k hk => by cases hk); obtain ⟨w2, hrun, hrow2, hb2, hz⟩ := copy_run w1 w.heap.size 0 _ l hrow (l.length + m) (l.length + m) cap a (by omega) (by simp) (hat.below hb1); clear hown hgrow hrow)
  go_ret
  have e : over (List.replicate (l.length + m) 0) 0 l = l ++ List.replicate m 0 := by simp [over]
  rw [e] at hrow2
  exact ⟨rfl, hrow2, hb1.trans hb2⟩

theorem over_step (z L : List UInt8) (p k : Nat) (hk : k < L.length) (h : p + L.length ≤ z.length) : (over z p (L.take k)).set (p + k) L[k] = over z p (L.take (k + 1)) := by
  unfold over
  rw [take_snoc L k hk, List.length_append, List.length_take, Nat.min_eq_left (by omega), List.length_singleton]
  have hd : z.drop (p + k) = z[p + k]'(by omega) :: z.drop (p + (k + 1)) := by rw [List.drop_eq_getElem_cons (by omega)]; rfl
  rw [hd, List.set_append_right _ _ (by simp; omega)]
  simp
  rw [Nat.min_eq_left (by omega), Nat.min_eq_left (by omega)]
  simp
  rw [take_snoc L k hk, List.append_assoc]
  rfl

theorem byte_val (n v k : Nat) (h : k < n) : B ((be n v)[k]'(by rw [be_length]; exact h)) = .int .u8 ((v : Int) / 2 ^ (8 * (n - 1 - k)) % 256) := by
  rw [be_get n v k h]
  unfold B
  simp only [UInt8.toNat_ofNat']
  rw [show (2 : Int) ^ (8 * (n - 1 - k)) = ((256 ^ (n - 1 - k) : Nat) : Int) by rw [Int.pow_mul]; simp]
  simp

set_option maxHeartbeats 400000 in
theorem put_any (g cap len p n v : Nat) (z : List UInt8) (w : World) (hl : z.length = len) (hlen : len ≤ 281474976710656) (hn : n ≤ 8) (hp : p + n ≤ len) (_hv : v < 18446744073709551616) (hrow : Row w g z) :
    Calls Try.prog 28 #[.slice (some ⟨g, 0, none⟩) len cap, .int .i64 p, .int .u64 v, .int .i64 n] w fun e w' => e = .returned (.tuple #[]) ∧ Row w' g (over z p (be n v)) ∧ Below g w w' ∧ w'.heap.size = w.heap.size := by
  subst hl
  go_enter Try.func28, Try.ntmps28
  go_wp2
  go_loopw [10] (fun i wr => ∃ k : Nat, k ≤ n ∧ i = .int .i64 k ∧ Row wr g (over z p ((be n v).take k)) ∧ Below g w wr ∧ wr.heap.size = w.heap.size) (fun i _ => n - (intOf i).toNat)
  case atStart => exact ⟨0, Nat.zero_le _, rfl, by simpa [over] using hrow, Below.refl _ _, rfl⟩
  case round =>
    obtain ⟨k, hk, rfl, hr, hb, hz⟩ := hrel
    by_cases hlt : k < n
    · have hlk : (over z p ((be n v).take k)).length = z.length := over_length _ _ _ (by simp [be_length]; omega)
      have hcx := hr.cell (p + k) (by omega)
      have hfx := hr.free (p + k)
      go_wp2
      go_roundw
      case rel =>
        rw [← byte_val n v k hlt]
        refine ⟨k + 1, by omega, by go_num, ?_, hb.setCell (Nat.le_refl _) _, by rw [World.size_setCell]; exact hz⟩
        have := hr.set (p + k) ((be n v)[k]'(by rw [be_length]; exact hlt))
        rwa [over_step z (be n v) p k (by rw [be_length]; exact hlt) (by rw [be_length]; exact hp)] at this
      case measure => simp [intOf]; omega
    · have hkn : k = n := by omega
      subst hkn
      go_wp2
      go_end0
      rw [List.take_of_length_le (by rw [be_length]; omega)] at hr
      exact ⟨rfl, hr, hb, hz⟩

theorem over_end (l : List UInt8) (n v : Nat) : over (l ++ List.replicate n 0) l.length (be n v) = l ++ be n v := by
  simp [over, be_length]

/-- What a writer of n bytes leaves: a new row with the bytes, nothing old turned. -/
theorem add_any (a : Option Addr) (cap len n v : Nat) (l : List UInt8) (w : World) (hl : l.length = len) (hlen : len + n ≤ 281474976710656) (hn : n ≤ 8) (hv : v < 18446744073709551616) (hat : At w a l) :
    Calls Try.prog 30 #[.slice a len cap, .int .u64 v, .int .i64 n] w fun e w' => e = .returned (.slice (some ⟨w.heap.size, 0, none⟩) (len + n) (len + n)) ∧ Row w' w.heap.size (l ++ be n v) ∧ Below w.heap.size w w' := by
  subst hl
  go_enter Try.func30, Try.ntmps30
  go_wp2_with (first | (go_at_call 27; refine (longer_any a cap l.length n l _ rfl hlen hat).mono ?_; rintro e w1 ⟨rfl, hrow, hb1⟩) | (go_at_call 28; refine (put_any w.heap.size _ (l.length + n) l.length n v _ _ (by simp) hlen hn (by omega) hv hrow).mono ?_; rintro e w2 ⟨rfl, hrow2, hb2, hz2⟩))
  go_ret
  rw [over_end] at hrow2
  exact ⟨rfl, hrow2, hb1.trans hb2⟩

theorem add64_any (a : Option Addr) (cap len v : Nat) (l : List UInt8) (w : World) (hl : l.length = len) (hlen : len ≤ 140737488355328) (hv : v < 18446744073709551616) (hat : At w a l) :
    Calls Try.prog 21 #[.slice a len cap, .int .u64 v] w fun e w' => e = .returned (.slice (some ⟨w.heap.size, 0, none⟩) (len + 8) (len + 8)) ∧ Row w' w.heap.size (l ++ be 8 v) ∧ Below w.heap.size w w' := by
  go_enter Try.func21, Try.ntmps21
  go_wp2_with (go_at_call 30; refine (add_any a cap len 8 v l _ hl (by omega) (by omega) hv hat).mono ?_; rintro e w1 ⟨rfl, hrow, hb1⟩)
  go_ret
  exact ⟨rfl, hrow, hb1⟩

theorem add32_any (a : Option Addr) (cap len v : Nat) (l : List UInt8) (w : World) (hl : l.length = len) (hlen : len ≤ 140737488355328) (hv : v < 4294967296) (hat : At w a l) :
    Calls Try.prog 20 #[.slice a len cap, .int .u32 v] w fun e w' => e = .returned (.slice (some ⟨w.heap.size, 0, none⟩) (len + 4) (len + 4)) ∧ Row w' w.heap.size (l ++ be 4 v) ∧ Below w.heap.size w w' := by
  go_enter Try.func20, Try.ntmps20
  go_wp2_with (go_at_call 30; refine (add_any a cap len 4 v l _ hl (by omega) (by omega) (by omega) hat).mono ?_; rintro e w1 ⟨rfl, hrow, hb1⟩)
  go_ret
  exact ⟨rfl, hrow, hb1⟩

theorem add16_any (a : Option Addr) (cap len v : Nat) (l : List UInt8) (w : World) (hl : l.length = len) (hlen : len ≤ 140737488355328) (hv : v < 65536) (hat : At w a l) :
    Calls Try.prog 19 #[.slice a len cap, .int .u16 v] w fun e w' => e = .returned (.slice (some ⟨w.heap.size, 0, none⟩) (len + 2) (len + 2)) ∧ Row w' w.heap.size (l ++ be 2 v) ∧ Below w.heap.size w w' := by
  go_enter Try.func19, Try.ntmps19
  go_wp2_with (go_at_call 30; refine (add_any a cap len 2 v l _ hl (by omega) (by omega) (by omega) hat).mono ?_; rintro e w1 ⟨rfl, hrow, hb1⟩)
  go_ret
  exact ⟨rfl, hrow, hb1⟩

theorem add8_any (a : Option Addr) (cap len v : Nat) (l : List UInt8) (w : World) (hl : l.length = len) (hlen : len ≤ 140737488355328) (hv : v < 256) (hat : At w a l) :
    Calls Try.prog 17 #[.slice a len cap, .int .u8 v] w fun e w' => e = .returned (.slice (some ⟨w.heap.size, 0, none⟩) (len + 1) (len + 1)) ∧ Row w' w.heap.size (l ++ be 1 v) ∧ Below w.heap.size w w' := by
  go_enter Try.func17, Try.ntmps17
  go_wp2_with (go_at_call 30; refine (add_any a cap len 1 v l _ hl (by omega) (by omega) (by omega) hat).mono ?_; rintro e w1 ⟨rfl, hrow, hb1⟩)
  go_ret
  exact ⟨rfl, hrow, hb1⟩

end Go.Proofs.Ytdchmffkbiaeaaa
