/- The fixed answers that every statement asks (awake) come out true, whatever the memory. -/
import Derived.Test.YtdhafnmahpafaaaSame
import Derived.Lib.SlBytesConst
namespace Go.Proofs.Ytdhafnmahpafaaa
open Go.RowKit

theorem head_prefix (f : Fr) (n : Nat) (hb : f.2.length ≤ 65535) (hn : n < f.2.length + 9) : headOf ((frameOf f).take n) = none := by
  unfold headOf
  have hl : ((frameOf f).take n).length = n := by rw [List.length_take, frame_len]; omega
  rw [hl]
  by_cases h4 : n < 4
  · rw [if_pos h4]
  · have e4 : ((frameOf f).take n).take 4 = be 4 (f.2.length + 1) := by
      rw [List.take_take, Nat.min_eq_left (by omega)]
      unfold frameOf
      rw [List.take_append_of_le_length (by rw [be_length]; omega), List.take_of_length_le (by rw [be_length]; omega)]
    have en : numOf (be 4 (f.2.length + 1)) = f.2.length + 1 := num_be _ _ (by omega)
    rw [if_neg h4, e4, en, if_neg (by omega), if_pos (by omega)]

theorem At.take {w : World} {a : Option Addr} {l : List UInt8} (h : At w a l) (n : Nat) : At w a (l.take n) := by
  intro hne
  obtain ⟨b, o, rfl, hc⟩ := h (by intro e; subst e; simp at hne)
  refine ⟨b, o, rfl, fun i hi => ?_⟩
  rw [List.length_take] at hi
  rw [hc i (by omega), List.getElem_take]

theorem Row.drop {w : World} {g : Nat} {l : List UInt8} (h : Row w g l) (n : Nat) : At w (some ⟨g, n, none⟩) (l.drop n) := by
  intro hne
  refine ⟨g, n, rfl, fun i hi => ?_⟩
  rw [List.length_drop] at hi
  rw [h.cell (n + i) (by omega), List.getElem_drop]

/-- Below B nothing has turned. -/
theorem Kp.of_low {w w' : World} {B : Nat} (h : Below B w w') : Kp (fun k => B ≤ k) w w' := ⟨h.os, h.tape, h.output, h.size, fun k _ hn => h.block k (by omega)⟩

theorem Row.low {w w' : World} {g B : Nat} {l : List UInt8} (h : Row w g l) (hb : Below B w w') (hg : g < B) : Row w' g l := by
  unfold Row; rw [hb.block g hg]; exact h

/-- Feed, its answer given; B: all of the reader lies from there on. -/
theorem feed_of (p cap len B : Nat) (v : Value) (a : Option Addr) (st : Option (List UInt8)) (l : List UInt8) (fs : List Fr) (st' : Option (List UInt8)) (E : Int) (F : Nat) (w : World) (h : Rd w p v st) (hp : B ≤ p) (hv : ∀ k, v.ownBlock = some k → B ≤ k) (hB : B ≤ w.heap.size)
    (hl : l.length = len) (hlen : (st.getD []).length + len ≤ 39000000000000) (hat : At w a l) (hf : feedOf st l = (fs, st')) (hE : E = if st'.isNone then 30 else 0) (hF : fs.length = F) :
    Calls Try.prog 10 #[.pointer (some ⟨p, 0, none⟩), .slice a len cap] w fun e w' => ∃ af cf v' its, its.map It.fr = fs ∧ its.length = F ∧ e = .returned (.tuple #[.slice af F cf, .int .i64 E]) ∧
      Rd w' p v' st' ∧ Frs w' (fun k => w.heap.size ≤ k ∧ v'.ownBlock ≠ some k) (.slice af F cf) its ∧ Below B w w' ∧ ∀ k, v'.ownBlock = some k → B ≤ k := by
  refine (feed_any p cap len v a st l w h hl hlen hat).mono ?_
  rintro e w' ⟨af, cf, v', its, h1, rfl, h2, h3, h4, h5⟩
  rw [hf] at h1 h2 ⊢
  have hi : its.length = F := by have := congrArg List.length h1; rw [List.length_map] at this; rw [this]; exact hF
  rw [hi] at h3 ⊢
  rw [hE]
  refine ⟨af, cf, v', its, h1, hi, rfl, h2, h3, h4.below ?_ hB, fun k hk => ?_⟩
  · rintro k (rfl | h)
    · exact hp
    · exact hv k h
  · rcases h5 k hk with h | h
    · exact hv k h
    · omega

theorem putf_of (K : Int) (k : UInt8) (len cap n : Nat) (a : Option Addr) (l : List UInt8) (w : World) (hK : K = (k.toNat : Int)) (hn : n = len + 9) (hl : l.length = len) (hlen : len ≤ 65535) (hat : At w a l) :
    Calls Try.prog 8 #[.agg #[.int .u8 K, .slice a len cap]] w fun e w' => ∃ g, e = .returned (.tuple #[.slice (some ⟨g, 0, none⟩) n n, .int .i64 0]) ∧ w.heap.size ≤ g ∧ Row w' g (frameOf (k, l)) ∧ Below w.heap.size w w' := by
  subst hK; subst hn; exact putf_any k len cap a l w hl hlen hat

/-- A literal's bytes, whatever its mark. -/
theorem at_mark (w : World) (l : List UInt8) (cs : Array Value) (m : Nat × Nat) (h : cs = (l.map B).toArray) : At (w.alloc (.cells cs 5 m)) (some ⟨w.heap.size, 0, none⟩) l := by
  subst h
  refine fun _ => ⟨w.heap.size, 0, rfl, fun i hi => ?_⟩
  have hh : (w.alloc (.cells (l.map B).toArray 5 m)).heap[w.heap.size]? = some (.cells (l.map B).toArray 5 m) := by
    show (w.heap.push _)[w.heap.size]? = _
    simp
  rw [Nat.zero_add]
  unfold World.cell?
  simp only [hh]
  simp [hi, B]

/-- '[]byte("..")'. -/
theorem const_run (w : World) (C : Array Value) (n c : Nat) : (convert 22 22 (.slice (some ⟨w.heap.size, 0, none⟩) n c)).run Try.prog (w.alloc (.cells C 5)) = .ok (.slice (some ⟨w.heap.size, 0, none⟩) n c) (w.alloc (.cells C 5 (C.size, C.size + 1))) :=
  Lib.run_convert_bytes_const (P := Try.prog) w 22 5 C n c Try.underlying22 Try.underlying5

theorem head0 : headOf [0] = none := by unfold headOf; simp

theorem f5 : frameOf (5, [97, 98]) = [0, 0, 0, 3, 5, 97, 98] ++ be 4 (crcOf [5, 97, 98]) := rfl

theorem feed1 : feedOf (some []) ((frameOf (5, [97, 98])).take 6) = ([], some ((frameOf (5, [97, 98])).take 6)) := take_cut (head_prefix (5, [97, 98]) 6 (by decide) (by decide))

theorem feed2 : feedOf (some ((frameOf (5, [97, 98])).take 6)) ((frameOf (5, [97, 98])).drop 6 ++ [0]) = ([(5, [97, 98])], some [0]) := by
  show takeOf _ = _
  rw [← List.append_assoc, List.take_append_drop, take_frame (5, [97, 98]) [0] (by decide), take_cut head0]

/-- One frame in a literal. -/
theorem fat_one {w : World} {g : Nat} {K : Int} {k : UInt8} {b : List UInt8} {a : Option Addr} {n c : Nat} (hK : K = (k.toNat : Int)) (hn : b.length = n) (h : FBlk w g K (.slice a n c)) (hat : At w a b) : FAt w (some ⟨g, 0, none⟩) [⟨k, b, a, c⟩] := by
  subst hK; subst hn
  refine ⟨fun _ => ⟨g, 0, rfl, fun j hj => ?_⟩, fun i hi => ?_⟩
  · simp at hj
    subst hj
    exact ⟨h.c0, h.c1⟩
  · simp at hi
    subst hi
    exact hat

set_option maxRecDepth 100000 in
set_option maxHeartbeats 1000000 in
theorem awake_any (w : World) : Calls Try.prog 13 #[] w fun e w' => e = .returned (.bool true) ∧ Below w.heap.size w w' := by
  have kc := const_run
  go_enter Try.func13, Try.ntmps13
  go_wp2_with fail
  refine (putf_of 5 5 2 2 11 _ [97, 98] _ rfl rfl rfl (by omega) (at_mark w [97, 98] _ _ rfl)).mono ?_
  rintro e w1 ⟨g1, rfl, hg1, hr1, hb1⟩
  replace hb1 := bnext (below_lit w _) hb1
  have hlt1 := hr1.lt
  have h6 := feed1
  have h7 := feed2
  have hl7 : (frameOf (5, [97, 98])).take 7 = [0, 0, 0, 3, 5, 97, 98] := rfl
  have hl11 : (frameOf (5, [97, 98])).length = 11 := frame_len _
  generalize frameOf (5, [97, 98]) = F at *
  go_wp2_with fail
  refine (new_any _).mono ?_
  rintro e w2 ⟨p, rfl, hp, hrd, hb2⟩
  replace hr1 := hr1.below hb2
  have hz2 := hb2.size
  go_wp2_with fail
  refine (feed_of p 11 6 w1.heap.size _ _ (some []) (F.take 6) [] (some (F.take 6)) 0 0 _ hrd hp (fun k hk => by cases hk) hz2 (by rw [List.length_take, hl11]; rfl) (by simp) (hr1.at.take 6) h6 rfl rfl).mono ?_
  rintro e w3 ⟨a3, c3, v3, its3, -, -, rfl, hrd3, -, hb3, hv3⟩
  replace hb2 := hb2.trans hb3
  replace hr1 := hr1.low hb3 hlt1
  have hz3 := hb2.size
  go_wp2_with fail
  refine (left_any p v3 _ _ hrd3).mono ?_
  rintro e w4 ⟨rfl, rfl⟩
  rw [show (((some (F.take 6)).getD []).length : Int) = 6 by simp [hl11]]
  go_wp2_with fail
  refine (copy_any _ 5 5 (F.drop 6) _ (by rw [List.length_drop, hl11]) (by omega) (hr1.drop 6)).mono ?_
  rintro e w5 ⟨v5, rfl, ho5, hb5⟩
  have hz5 := hb5.size
  go_wp2_with (at_builtin; refine wpList_app _ rfl (.tmp 37) (.tmp 38) rfl rfl w4.heap.size _ (F.drop 6) [0] rfl (ho5.alloc _) (some ⟨w5.heap.size, 0, none⟩) 1 1 rfl rfl (at_lit w5 [0] _ rfl) (by rw [List.length_drop, hl11]; omega) (by simp; omega) ?_; intro v6 w6 ho6 hb6)
  replace hb6 := hb5.trans (((below_lit w5 _).mono hz5).trans hb6)
  replace hr1 := hr1.below hb6
  replace hrd3 := hrd3.below hb6
  replace hb2 := hb2.trans (hb6.mono hz3)
  have hz6 := hb2.size
  have hl6 : (F.drop 6 ++ [0]).length = 6 := by rw [List.length_append, List.length_drop, hl11]; rfl
  obtain ⟨a6, c6, rfl, _, hat6⟩ := ho6.form
  rw [hl6]
  clear ho5 hb5 ho6 hb6 hb3
  go_wp2_with fail
  refine (feed_of p c6 6 w1.heap.size _ _ (some (F.take 6)) (F.drop 6 ++ [0]) [(5, [97, 98])] (some [0]) 0 1 _ hrd3 hp hv3 hz6 hl6 (by simp; omega) hat6 h7 rfl rfl).mono ?_
  rintro e w7 ⟨a7, c7, v7, its7, hi7, hn7, rfl, hrd7, hf7, hb7, hv7⟩
  replace hb2 := hb2.trans hb7
  replace hr1 := hr1.low hb7 hlt1
  go_wp2_with fail
  refine (left_any p v7 _ _ hrd7).mono ?_
  rintro e w8 ⟨rfl, rfl⟩
  have hfat := hf7.fat
  replace hf7 := hid hf7
  go_wp2_with fail
  have hba : Below w8.heap.size w8 ((w8.alloc (.cells #[.int .u8 97, .int .u8 98] 5 (2, 3))).alloc (.cells #[.int .u8 5, .slice (some ⟨w8.heap.size, 0, none⟩) 2 2] 27)) := bnext (below_lit w8 _) (below_lit _ _)
  have hfb : FBlk ((w8.alloc (.cells #[.int .u8 97, .int .u8 98] 5 (2, 3))).alloc (.cells #[.int .u8 5, .slice (some ⟨w8.heap.size, 0, none⟩) 2 2] 27)) (w8.heap.size + 1) 5 (.slice (some ⟨w8.heap.size, 0, none⟩) 2 2) := by
    have := FBlk.new (w8.alloc (.cells #[.int .u8 97, .int .u8 98] 5 (2, 3))) 5 (.slice (some ⟨w8.heap.size, 0, none⟩) 2 2)
    simpa using this
  have hlit := fat_one (k := 5) (b := [97, 98]) rfl rfl hfb ((at_mark w8 [97, 98] _ (2, 3) rfl).below (below_lit _ _))
  refine (samef_any a7 _ 1 1 c7 1 its7 _ _ hn7 rfl (by omega) (hfat.below hba) hlit (by rw [hi7]; rfl)).mono ?_
  rintro e w9 ⟨rfl, hb9⟩
  replace hb9 := bnext hba hb9
  replace hr1 := hr1.below hb9
  have hz8 := hb2.size
  replace hb2 := hb2.trans (hb9.mono hz8)
  go_wp2_with fail
  refine (same_any _ _ 7 7 _ _ (F.take 7) [0, 0, 0, 3, 5, 97, 98] _ (by rw [hl7]; rfl) rfl ((hr1.at.take 7).below (below_lit _ _)) (at_lit w9 [0, 0, 0, 3, 5, 97, 98] _ rfl) hl7).mono ?_
  rintro e w10 ⟨rfl, rfl⟩
  go_wp2
  go_ret
  exact ⟨rfl, bnext (hb1.trans (hb2.mono hb1.size)) (below_lit w9 _)⟩
end Go.Proofs.Ytdhafnmahpafaaa
