/- FieldNumbers's walk. -/
import Derived.Test.YtkkdiciadkcmmaaNumC
namespace Go.Proofs.Ytkkdiciadkcmmaa
open Go.RowKit

def oneF : Fd := ⟨3, 3, 0, ByteArray.empty, [-1], []⟩
def oneB : List UInt8 := [1, 3, 3, 0, 1, 255, 255, 255, 255, 255, 255, 255, 255]
theorem oneF_right : Right [oneF] := ⟨by simp, fun i h => by
  simp at h
  subst h
  exact ⟨.inr (.inr (.inl ⟨rfl, rfl, rfl, by simp [oneF], by simp [oneF], rfl⟩)), fun h => absurd h (by omega)⟩⟩
theorem oneF_bytes : bytesOf [oneF] = oneB := by decide
theorem nil_right : Right [] := ⟨by simp, fun i h => by simp at h⟩
theorem neg_in : In64 (-1) := by unfold In64; omega

/-- Fields in a row of the call's own: so many. -/
def manyI (n : Nat) : List It := (List.range n).map fun i => ⟨⟨UInt8.ofNat i, 1, 1, ByteArray.empty, [], []⟩, none, 0, none, 0⟩
theorem manyI_fds (n : Nat) : fds (manyI n) = manyF n := by simp [fds, manyI, manyF]
theorem manyI_len (n : Nat) : (manyI n).length = n := by simp [manyI]
theorem manyI_snoc (n : Nat) : manyI (n + 1) = manyI n ++ [⟨⟨UInt8.ofNat n, 1, 1, ByteArray.empty, [], []⟩, none, 0, none, 0⟩] := by simp [manyI, List.range_succ]
theorem manyI_at (w : World) (n : Nat) : ∀ i ∈ manyI n, ItAt w i := fun i hi => by
  obtain ⟨j, _, rfl⟩ := List.mem_map.1 hi
  exact it_plain _ _ _ _ in1
theorem many_fat {w : World} {base n m c : Nat} {a : Option Addr} (h : Flds w base (.slice a m c) (manyI n)) : FAt w a (manyI n) := ⟨owns_cat h, manyI_at w n⟩
theorem drew_below (w : World) : Below w.heap.size w w.drew := (Below.refl _ _).drew
theorem bel_tr (a b c : World) (h : Below a.heap.size a b) (k : Below b.heap.size b c) : Below a.heap.size a c := bnext h k

theorem CAt.front {w : World} {a : Option Addr} {xs ys : List Value} (h : CAt w a (xs ++ ys)) : CAt w a xs := by
  intro hne
  obtain ⟨b, o, rfl, hc⟩ := h (by intro e; exact hne (List.append_eq_nil_iff.1 e).1)
  refine ⟨b, o, rfl, fun i hi => ?_⟩
  have := hc i (by rw [List.length_append]; omega)
  rw [List.getElem_append_left hi] at this
  exact this
theorem many_cut {w : World} {a : Option Addr} (h : FAt w a (manyI 65)) : FAt w a (manyI 64) := by
  refine ⟨?_, manyI_at w 64⟩
  have h1 := h.1
  rw [manyI_snoc 64, List.flatMap_append] at h1
  exact h1.front
theorem owns_some {w : World} {base e size n m c : Nat} {a : Option Addr} {xs : List Value} (h : w.ownsRow base e size (.slice a m c) n xs) (hn : 0 < n) : ∃ g, a = some ⟨g, 0, none⟩ ∧ n ≤ c := by
  rcases h.2 with ⟨_, h0⟩ | ⟨g, cap, cur, hv, _, _, hc, _⟩
  · omega
  · simp only [Value.slice.injEq] at hv
    obtain ⟨rfl, _, rfl⟩ := hv
    exact ⟨g, rfl, hc⟩
theorem text_fat {w : World} (S : ByteArray) : FAt (w.alloc (.cells #[.int .u8 1, .int .u8 2, .int .i64 0, .string S, .slice none 0 0, .slice none 0 0] 30)) (some ⟨w.heap.size, 0, none⟩) [⟨⟨1, 2, 0, S, [], []⟩, none, 0, none, 0⟩] :=
  ⟨by rw [List.flatMap_cons, List.flatMap_nil, List.append_nil]; exact cat_lit w 30 _ _ rfl, fun i hi => by rw [List.mem_singleton.1 hi]; exact it_plain _ _ _ _ in0⟩

theorem no_dst {ops : Array Oper} {s : Tmp} (h : ops.all (fun o => o.dst != some s) = true) : ∀ (i : Nat) (o : Oper), ops[i]? = some o → o.dst ≠ some s := fun i o hi e => by
  obtain ⟨hlt, rfl⟩ := Array.getElem?_eq_some_iff.1 hi
  have := Array.all_eq_true.1 h i hlt
  rw [e] at this
  simp at this
theorem get_keep {a : Act} {t : Array Value} {s : Nat} {v : Value} (h : a.tmps[s]? = t[s]?) (ht : t[s]? = some v) : a.tmps.getD s undef = v := by
  rw [Array.getD_eq_getD_getElem?, h, ht]; rfl

set_option maxRecDepth 100000 in
set_option maxHeartbeats 16000000 in
theorem numbers_any (w : World) : Calls Try.prog 3 #[] w fun e w' => e = .returned (.bool true) ∧ Below w.heap.size w w' := by
  go_enter Try.func3, Try.ntmps3
  go_wp2_with fail
  refine (put_ok none 0 0 1 [] _ rfl ⟨CAt.nil _ _, by simp⟩ nil_right rfl (by omega)).mono ?_
  rintro e w1 ⟨a1, c1, rfl, _, hat1, hb1⟩
  have hf2 : FAt ((w1.alloc (.cells #[.int .i64 (-1)] 2)).alloc (.cells #[.int .u8 3, .int .u8 3, .int .i64 0, .string ByteArray.empty, .slice (some ⟨w1.heap.size, 0, none⟩) 1 1, .slice none 0 0] 30)) (some ⟨w1.heap.size + 1, 0, none⟩) [⟨oneF, some ⟨w1.heap.size, 0, none⟩, 1, none, 0⟩] := by
    have hb := below_lit (w1.alloc (.cells #[.int .i64 (-1)] 2)) (.cells #[.int .u8 3, .int .u8 3, .int .i64 0, .string ByteArray.empty, .slice (some ⟨w1.heap.size, 0, none⟩) 1 1, .slice none 0 0] 30)
    have hc := cat_lit (w1.alloc (.cells #[.int .i64 (-1)] 2)) 30 (It.cells ⟨oneF, some ⟨w1.heap.size, 0, none⟩, 1, none, 0⟩) #[.int .u8 3, .int .u8 3, .int .i64 0, .string ByteArray.empty, .slice (some ⟨w1.heap.size, 0, none⟩) 1 1, .slice none 0 0] rfl
    have hs : (w1.alloc (.cells #[.int .i64 (-1)] 2)).heap.size = w1.heap.size + 1 := by simp
    rw [hs] at hc
    refine ⟨by rw [List.flatMap_cons, List.flatMap_nil, List.append_nil]; exact hc, fun i hi => ?_⟩
    rw [List.mem_singleton.1 hi]
    exact ⟨CAt.below (cat_lit w1 2 (nvals [-1]) _ rfl) hb, CAt.nil _ _, ⟨in0, fun x hx => by rw [List.mem_singleton.1 hx]; exact neg_in⟩⟩
  have hb2 := bnext (bnext hb1 (below_lit w1 (.cells #[.int .i64 (-1)] 2))) (below_lit (w1.alloc (.cells #[.int .i64 (-1)] 2)) (.cells #[.int .u8 3, .int .u8 3, .int .i64 0, .string ByteArray.empty, .slice (some ⟨w1.heap.size, 0, none⟩) 1 1, .slice none 0 0] 30))
  have hat1' := (hat1.below (below_lit w1 (.cells #[.int .i64 (-1)] 2))).below (below_lit (w1.alloc (.cells #[.int .i64 (-1)] 2)) (.cells #[.int .u8 3, .int .u8 3, .int .i64 0, .string ByteArray.empty, .slice (some ⟨w1.heap.size, 0, none⟩) 1 1, .slice none 0 0] 30))
  clear hat1
  go_wp2_with fail
  refine (put_ok _ 1 1 13 _ _ rfl hf2 oneF_right (by rw [show fds [⟨oneF, some ⟨w1.heap.size, 0, none⟩, 1, none, 0⟩] = [oneF] from rfl, oneF_bytes]; rfl) (by omega)).mono ?_
  rintro e w3 ⟨a3, c3, rfl, _, hat3, hb3⟩
  rw [show fds [⟨oneF, some ⟨w1.heap.size, 0, none⟩, 1, none, 0⟩] = [oneF] from rfl, oneF_bytes] at hat3
  replace hat1' := hat1'.below hb3
  replace hb3 := bnext hb2 hb3
  clear hf2 hb2 hb1
  go_wp2_with fail
  refine (same_any a1 _ 1 1 c1 1 [0] [0] _ rfl rfl (hat1'.below (below_lit w3 _)) (at_lit w3 [0] #[.int .u8 0] rfl) rfl).mono ?_
  rintro e w4 ⟨rfl, rfl⟩
  have hb4 := bnext hb3 (below_lit w3 (.cells #[.int .u8 0] 5))
  have hat3' := hat3.below (below_lit w3 (.cells #[.int .u8 0] 5))
  clear hat3 hat1' hb3
  generalize w3.alloc (.cells #[.int .u8 0] 5) = w5 at *
  go_wp2_with fail
  refine (same_any a3 _ 13 13 c3 13 oneB oneB _ rfl rfl (hat3'.below (below_lit w5 _)) (at_lit w5 oneB #[.int .u8 1, .int .u8 3, .int .u8 3, .int .u8 0, .int .u8 1, .int .u8 255, .int .u8 255, .int .u8 255, .int .u8 255, .int .u8 255, .int .u8 255, .int .u8 255, .int .u8 255] rfl) rfl).mono ?_
  rintro e w6 ⟨rfl, rfl⟩
  replace hb4 := bnext hb4 (below_lit w5 (.cells #[.int .u8 1, .int .u8 3, .int .u8 3, .int .u8 0, .int .u8 1, .int .u8 255, .int .u8 255, .int .u8 255, .int .u8 255, .int .u8 255, .int .u8 255, .int .u8 255, .int .u8 255] 5))
  have hz6 := hb4.size
  clear hat3'
  generalize w5.alloc (.cells #[.int .u8 1, .int .u8 3, .int .u8 3, .int .u8 0, .int .u8 1, .int .u8 255, .int .u8 255, .int .u8 255, .int .u8 255, .int .u8 255, .int .u8 255, .int .u8 255, .int .u8 255] 5) = w7 at *
  go_wp2
  go_loopw [6, 7] (fun v i wr => ∃ j : Nat, j ≤ 65 ∧ i = .int .i64 j ∧ Flds wr w.heap.size v (manyI j) ∧ Below w.heap.size w wr) (fun _ i _ => 65 - (intOf i).toNat)
  case atStart => exact ⟨0, Nat.zero_le _, rfl, Flds.nil _ _, hb4⟩
  case round =>
    obtain ⟨j, hj, rfl, ho, hb⟩ := hrel
    obtain ⟨av, cv, rfl, _⟩ := owns_form ho
    rw [manyI_len] at ho ⊢
    have hz := hb.size
    by_cases hlt : j < 65
    · have hbl := below_lit wr (.cells #[.int .u8 (j : Int), .int .u8 1, .int .i64 1, .string ByteArray.empty, .slice none 0 0, .slice none 0 0] 30)
      have ho2 : Flds _ w.heap.size _ _ := owns_below ho hbl
      have hjt : ((UInt8.ofNat j).toNat : Int) = (j : Int) := by rw [of_nat_toNat j (by omega)]
      have hat2 : CAt (wr.alloc (.cells #[.int .u8 (j : Int), .int .u8 1, .int .i64 1, .string ByteArray.empty, .slice none 0 0, .slice none 0 0] 30)) (some ⟨wr.heap.size, 0, none⟩) (It.cells ⟨⟨UInt8.ofNat j, 1, 1, ByteArray.empty, [], []⟩, none, 0, none, 0⟩) := cat_lit wr 30 _ _ (by simp only [It.cells]; rw [hjt]; rfl)
      have hz2 := (bnext hb hbl).size
      replace hjt := hid hjt
      go_wp2_with (at_builtin; refine wpList_fld _ rfl (.tmp 55) (.tmp 59) rfl w.heap.size _ (manyI j) ⟨⟨UInt8.ofNat j, 1, 1, ByteArray.empty, [], []⟩, none, 0, none, 0⟩ rfl ho2 (some ⟨wr.heap.size, 0, none⟩) 1 rfl hat2 (by rw [manyI_len]; omega) hz2 ?_; intro v5 w5 ho5 hg5 _)
      have hb5 := (bnext hb hbl).trans ((Kp.grown hg5).below (fun k e => (World.ownsRow.lt ho2 k e).1) hz2)
      go_wp2
      go_roundw
      case rel => exact ⟨j + 1, by omega, by go_num, by rw [manyI_snoc]; exact ho5, hb5⟩
      case measure => simp [intOf]; omega
    · obtain rfl : j = 65 := by omega
      obtain ⟨g6, rfl, h65⟩ := owns_some ho (by rw [manyI_len]; omega)
      rw [manyI_len] at h65
      rw [show ((65 : Nat) : Int) = 65 from rfl]
      have hfm := many_fat ho
      clear ho hz
      go_wp2_with fail
      refine wp_region_drawn (Rel := fun w w' => Below w.heap.size w w') (Pr := pr9 (.slice (some ⟨g6, 0, none⟩) 65 cv)) (by kernel_rfl) (by kernel_rfl) (drew_below _) bel_tr (pr9_on _) ?_ ?_
      · refine ⟨?_, ?_, ?_, ?_, ?_, ?_, ?_, ?_, ?_, ?_, ?_, ?_, ?_, ?_, ?_, ?_, ?_, ?_, ?_, ?_, ?_, ?_, ?_, ?_, ?_, ?_, ?_, ?_, ?_, ?_, ?_, ?_, ?_, ?_, ?_, ?_, ?_, ?_, ?_, ?_, ?_, ?_, ?_, trivial⟩
        · exact fun a w hR hd hk K hK => st_A 1 1 rfl rfl (fun v hv => hK v w hv (Below.refl _ _))
        · exact fun a w hR hd hk K hK => st_fs1 _ (hd 0 _ 61 rfl rfl rfl) hK
        · exact fun a w hR hd hk K hK => st_A 1 2 rfl rfl (fun v hv => hK v w hv (Below.refl _ _))
        · exact fun a w hR hd hk K hK => st_fs1 _ (hd 2 _ 63 rfl rfl rfl) hK
        · exact fun a w hR hd hk K hK => st_B 2 1 1 rfl rfl in1 (fun v hv => hK v w hv (Below.refl _ _))
        · exact fun a w hR hd hk K hK => st_B 2 1 1 rfl rfl in1 (fun v hv => hK v w hv (Below.refl _ _))
        · exact fun a w hR hd hk K hK => st_fs2 _ _ (hd 4 _ 65 rfl rfl rfl) (hd 5 _ 66 rfl rfl rfl) hK
        · exact fun a w hR hd hk K hK => st_B 2 1 1 rfl rfl in1 (fun v hv => hK v w hv (Below.refl _ _))
        · exact fun a w hR hd hk K hK => st_B 1 1 1 rfl rfl in1 (fun v hv => hK v w hv (Below.refl _ _))
        · exact fun a w hR hd hk K hK => st_fs2 _ _ (hd 7 _ 68 rfl rfl rfl) (hd 8 _ 69 rfl rfl rfl) hK
        · exact fun a w hR hd hk K hK => st_C 1 1 5 ⟨#[97]⟩ rfl rfl in5 (fun v hv => hK v w hv (Below.refl _ _))
        · exact fun a w hR hd hk K hK => st_fs1 _ (hd 10 _ 71 rfl rfl rfl) hK
        · exact fun a w hR hd hk K hK => st_C 1 2 5 ⟨#[97]⟩ rfl rfl in5 (fun v hv => hK v w hv (Below.refl _ _))
        · exact fun a w hR hd hk K hK => st_fs1 _ (hd 12 _ 73 rfl rfl rfl) hK
        · exact fun a w hR hd hk K hK => st_mkns 257 rfl (by omega) hK
        · exact fun a w hR hd hk K hK => st_D 1 3 _ rfl rfl (hd 14 _ 75 rfl rfl rfl) in_rep (fun v hv => hK v w hv (Below.refl _ _))
        · exact fun a w hR hd hk K hK => st_fs1 _ (hd 15 _ 76 rfl rfl rfl) hK
        · exact fun a w hR hd hk K hK => st_mkts 257 rfl (by omega) hK
        · exact fun a w hR hd hk K hK => st_E 1 4 _ rfl rfl (hd 17 _ 78 rfl rfl rfl) (fun v hv => hK v w hv (Below.refl _ _))
        · exact fun a w hR hd hk K hK => st_fs1 _ (hd 18 _ 79 rfl rfl rfl) hK
        · exact fun a w hR hd hk K hK => st_A 1 4 rfl rfl (fun v hv => hK v w hv (Below.refl _ _))
        · exact fun a w hR hd hk K hK => st_fs1 _ (hd 20 _ 81 rfl rfl rfl) hK
        · exact fun a w hR hd hk K hK => st_ns1 1 hK
        · exact fun a w hR hd hk K hK => st_ts1 ByteArray.empty hK
        · exact fun a w hR hd hk K hK => st_F 1 3 _ _ rfl rfl (hd 22 _ 83 rfl rfl rfl) (hd 23 _ 84 rfl rfl rfl) in_one (fun v hv => hK v w hv (Below.refl _ _))
        · exact fun a w hR hd hk K hK => st_fs1 _ (hd 24 _ 85 rfl rfl rfl) hK
        · exact fun a w hR hd hk K hK => st_A 1 0 rfl rfl (fun v hv => hK v w hv (Below.refl _ _))
        · exact fun a w hR hd hk K hK => st_fs1 _ (hd 26 _ 87 rfl rfl rfl) hK
        · exact fun a w hR hd hk K hK => st_B 1 5 1 rfl rfl in1 (fun v hv => hK v w hv (Below.refl _ _))
        · exact fun a w hR hd hk K hK => st_fs1 _ (hd 28 _ 89 rfl rfl rfl) hK
        · exact fun a w hR hd hk K hK => st_mkbs 65536 rfl (by omega) hK
        · exact fun a w hR hd hk K hK => st_conv _ (hd 30 _ 91 rfl rfl rfl) (fun v hv => hK v w hv (Below.refl _ _))
        · exact fun a w hR hd hk K hK => st_G 1 2 _ rfl rfl (hd 31 _ 92 rfl rfl rfl) (fun v hv => hK v w hv (Below.refl _ _))
        · exact fun a w hR hd hk K hK => st_fs1 _ (hd 32 _ 93 rfl rfl rfl) hK
        · exact fun a w hR hd hk K hK => st_mkbs 65536 rfl (by omega) hK
        · exact fun a w hR hd hk K hK => st_conv _ (hd 34 _ 95 rfl rfl rfl) (fun v hv => hK v w hv (Below.refl _ _))
        · exact fun a w hR hd hk K hK => st_ts2 _ (hd 35 _ 96 rfl rfl rfl) hK
        · exact fun a w hR hd hk K hK => st_E 1 4 _ rfl rfl (hd 36 _ 97 rfl rfl rfl) (fun v hv => hK v w hv (Below.refl _ _))
        · exact fun a w hR hd hk K hK => st_fs1 _ (hd 37 _ 98 rfl rfl rfl) hK
        · exact fun a w hR hd hk K hK => st_move (.slice (some ⟨g6, 0, none⟩) 65 cv) (get_keep (hk 6 (no_dst (by kernel_rfl))) rfl) (hK _ w ⟨rfl, ⟨some ⟨g6, 0, none⟩, manyI 65, cv, rfl, manyI_fds 65, hfm.below hR⟩⟩ (Below.refl _ _))
        · exact fun a w hR hd hk K hK => st_ll (IsFs.fl (hd 1 _ 62 rfl rfl rfl)) (IsFs.fl (hd 3 _ 64 rfl rfl rfl)) (IsFs.fl (hd 6 _ 67 rfl rfl rfl)) (IsFs.fl (hd 9 _ 70 rfl rfl rfl)) (IsFs.fl (hd 11 _ 72 rfl rfl rfl)) (IsFs.fl (hd 13 _ 74 rfl rfl rfl)) (IsFs.fl (hd 16 _ 77 rfl rfl rfl)) (IsFs.fl (hd 19 _ 80 rfl rfl rfl)) (IsFs.fl (hd 21 _ 82 rfl rfl rfl)) (IsFs.fl (hd 25 _ 86 rfl rfl rfl)) (IsFs.fl (hd 27 _ 88 rfl rfl rfl)) (IsFs.fl (hd 29 _ 90 rfl rfl rfl)) (IsFs.fl (hd 33 _ 94 rfl rfl rfl)) (IsFs.fl (hd 38 _ 99 rfl rfl rfl)) (hd 39 _ 100 rfl rfl rfl).2 hK
        · exact fun a w hR hd hk K hK => st_len (hd 40 _ 101 rfl rfl rfl) (hK _ w rfl (Below.refl _ _))
        · exact fun a w hR hd hk K hK => st_movec _ (hK _ w rfl (Below.refl _ _))
      · intro a w9 hdf hsz hkp hval hR9
        obtain ⟨f, hf⟩ : ∃ f, f = fun d => a.tmps.getD d undef := ⟨_, rfl⟩
        have hll : IsLL (f 101) w9 := by rw [hf]; exact hval 40 _ 101 rfl rfl
        have hl2 : f 102 = .int .i64 15 := by rw [hf]; exact hval 41 _ 102 rfl rfl
        have hl3 : f 103 = .int .i64 0 := by rw [hf]; exact hval 42 _ 103 rfl rfl
        have hfa := act_filled hdf hsz hkp
        rw [← hf] at hfa
        rw [hfa]
        clear hdf hsz hkp hval hfa hf
        clear a
        obtain ⟨g, vs, hv9, hvl, hvc, hvf⟩ := hll
        simp only [fillAll, List.set_cons_zero, List.set_cons_succ, hv9, hl2, hl3]
        clear hv9 hl2 hl3
        go_wp2
        go_loopw [103] (fun i wr => ∃ j : Nat, j ≤ 15 ∧ i = .int .i64 j ∧ Below w9.heap.size w9 wr) (fun i _ => 15 - (intOf i).toNat)
        case atStart => exact ⟨0, Nat.zero_le _, rfl, Below.refl _ _⟩
        case round =>
          obtain ⟨j, hj, rfl, hbr⟩ := hrel
          by_cases hlt : j < 15
          · obtain ⟨b, o, he, hc⟩ := (hvc.below hbr) (by intro e; rw [e] at hvl; simp at hvl)
            simp only [Option.some.injEq, Addr.mk.injEq] at he
            obtain ⟨rfl, rfl, _⟩ := he
            have hcj := hc j (by omega)
            obtain ⟨aj, sj, cj, ej, fj, gj⟩ := hvf j (by omega)
            rw [ej, Nat.zero_add] at hcj
            have hno : ¬ Right (fds sj) := by rw [fj]; exact tbl_not j
            have hp := put_no aj sj.length cj sj _ rfl (gj.below hbr) hno
            have hq : ∀ v, Below wr.heap.size wr v → Calls Try.prog 10 #[.slice aj sj.length cj] v fun e w' => e = .returned (.bool false) ∧ Below v.heap.size v w' := fun v hv => right_no aj sj.length cj sj v rfl ((gj.below hbr).below hv) hno
            replace hno := hid hno
            replace hq := hid hq
            replace hvl := hid hvl
            replace hvc := hid hvc
            clear hc ej fj gj
            generalize sj.length = nj at *
            go_wp2_with fail
            refine hp.mono ?_
            rintro e w10 ⟨rfl, hb10⟩
            go_wp2_with fail
            refine (hq.out _ hb10).mono ?_
            rintro e w11 ⟨rfl, hb11⟩
            have hb12 := bnext (bnext hbr hb10) hb11
            go_wp2
            go_roundw
            case rel => exact ⟨j + 1, by omega, by go_num, hb12⟩
            case measure => simp [intOf]; omega
          · obtain rfl : j = 15 := by omega
            rw [show ((15 : Nat) : Int) = 15 from rfl]
            have hbw := bnext (bnext hb hR9) hbr
            have hfm2 := (hfm.below hR9).below hbr
            clear hvl hvc hvf hbr hR9 hfm hb hb4 hz6
            go_wp2_with fail
            refine wp_region_drawn (Rel := fun w w' => Below w.heap.size w w') (Pr := pr16) (by kernel_rfl) (by kernel_rfl) (drew_below _) bel_tr pr16_on ?_ ?_
            · refine ⟨?_, ?_, ?_, ?_, ?_, ?_, ?_, ?_, ?_, ?_, ?_, trivial⟩
              · exact fun a w hR hd hk K hK => st_mkns 256 rfl (by omega) hK
              · exact fun a w hR hd hk K hK => st_D 1 3 _ rfl rfl (hd 0 _ 125 rfl rfl rfl) in_rep (fun v hv => hK v w hv (Below.refl _ _))
              · exact fun a w hR hd hk K hK => st_mkts 256 rfl (by omega) hK
              · exact fun a w hR hd hk K hK => st_E 2 4 _ rfl rfl (hd 2 _ 127 rfl rfl rfl) (fun v hv => hK v w hv (Below.refl _ _))
              · exact fun a w hR hd hk K hK => st_fs2 _ _ (hd 1 _ 126 rfl rfl rfl) (hd 3 _ 128 rfl rfl rfl) hK
              · exact fun a w hR hd hk K hK => st_put wideF 2569 (hd 4 _ 129 rfl rfl rfl) wide_right wide_len (by omega) hK
              · exact fun a w hR hd hk K hK => st_mv (hK _ w (hd 5 _ 130 rfl rfl rfl) (Below.refl _ _))
              · exact fun a w hR hd hk K hK => st_ex0 (hd 6 _ 124 rfl rfl rfl) (fun v => hK v w trivial (Below.refl _ _))
              · exact fun a w hR hd hk K hK => st_ex1 (hd 6 _ 124 rfl rfl rfl) (hK _ w rfl (Below.refl _ _))
              · exact fun a w hR hd hk K hK => st_as (hK _ w trivial (Below.refl _ _))
              · exact fun a w hR hd hk K hK => st_as (hK _ w (hd 8 _ 132 rfl rfl rfl) (Below.refl _ _))
            · intro a w13 hdf hsz hkp hval hR13
              obtain ⟨f, hf⟩ : ∃ f, f = fun d => a.tmps.getD d undef := ⟨_, rfl⟩
              have h13 : f 13 = .int .i64 0 := by rw [hf]; exact hval 10 _ 13 rfl rfl
              have hfa := act_filled hdf hsz hkp
              rw [← hf] at hfa
              rw [hfa]
              clear hdf hsz hkp hval hfa hf
              clear a
              simp only [fillAll, List.set_cons_zero, List.set_cons_succ, h13]
              clear h13
              have hb13 := bnext hbw hR13
              have hfm3 := hfm2.below hR13
              clear hbw hfm2 hR13
              go_wp2_with (at_make; refine wpList_zeros _ rfl (.const (.int .i64 64995)) (.const (.int .i64 64995)) rfl 64995 64995 rfl rfl rfl (by omega) ?_; intro w14 hr14 hb14; obtain ⟨Z, hZ⟩ : ∃ Z, Z = List.replicate 64995 (0 : UInt8) := ⟨_, rfl⟩; rw [← hZ] at hr14; have hZl : Z.length = 64995 := (by rw [hZ, List.length_replicate]); replace hZ := hid hZ; have hcv := conv_run w14 _ Z 64995 64995 hZl hr14.at; have hSs : (⟨Z.toArray⟩ : ByteArray).size = 64995 := (by simp [ByteArray.size, hZl]); replace hZl := hid hZl; generalize (⟨Z.toArray⟩ : ByteArray) = S at hcv hSs; replace hSs := hid hSs)
              have hbl := below_lit w14 (.cells #[.int .u8 1, .int .u8 2, .int .i64 0, .string S, .slice none 0 0, .slice none 0 0] 30)
              refine (put_ok (some ⟨w14.heap.size, 0, none⟩) 1 1 65000 [⟨⟨1, 2, 0, S, [], []⟩, none, 0, none, 0⟩] _ rfl (text_fat S) (text_right S (by rw [hSs.out]; omega) (by rw [hSs.out]; omega)) (by rw [show fds [⟨⟨1, 2, 0, S, [], []⟩, none, 0, none, 0⟩] = textF S from rfl, text_len, hSs.out]) (by omega)).mono ?_
              rintro e w15 ⟨a15, c15, rfl, hc15, hat15, hb15⟩
              rw [show fds [⟨⟨1, 2, 0, S, [], []⟩, none, 0, none, 0⟩] = textF S from rfl] at hat15
              have hfm5 := ((hfm3.below hb14).below hbl).below hb15
              replace hb15 := bnext (bnext (bnext hb13 hb14) hbl) hb15
              clear hcv hr14 hfm3 hb13 hb14 hbl
              go_wp2_with (at_make; refine wpList_zeros _ rfl (.const (.int .i64 64996)) (.const (.int .i64 64996)) rfl 64996 64996 rfl rfl rfl (by omega) ?_; intro w16 hr16 hb16; obtain ⟨Y, hY⟩ : ∃ Y, Y = List.replicate 64996 (0 : UInt8) := ⟨_, rfl⟩; rw [← hY] at hr16; have hYl : Y.length = 64996 := (by rw [hY, List.length_replicate]); replace hY := hid hY; have hcv := conv_run w16 _ Y 64996 64996 hYl hr16.at; have hTs : (⟨Y.toArray⟩ : ByteArray).size = 64996 := (by simp [ByteArray.size, hYl]); replace hYl := hid hYl; generalize (⟨Y.toArray⟩ : ByteArray) = T at hcv hTs; replace hTs := hid hTs)
              have hbl := below_lit w16 (.cells #[.int .u8 1, .int .u8 2, .int .i64 0, .string T, .slice none 0 0, .slice none 0 0] 30)
              refine (put_long (some ⟨w16.heap.size, 0, none⟩) 1 1 [⟨⟨1, 2, 0, T, [], []⟩, none, 0, none, 0⟩] _ rfl (text_fat T) (text_right T (by rw [hTs.out]; omega) (by rw [hTs.out]; omega)) (by rw [show fds [⟨⟨1, 2, 0, T, [], []⟩, none, 0, none, 0⟩] = textF T from rfl, text_len, hTs.out]; omega)).mono ?_
              rintro e w17 ⟨rfl, hb17⟩
              have hfm7 := ((hfm5.below hb16).below hbl).below hb17
              replace hat15 := ((hat15.below hb16).below hbl).below hb17
              replace hb17 := bnext (bnext (bnext hb15 hb16) hbl) hb17
              clear hcv hr16 hfm5 hb15 hb16 hbl
              have hlenS : (bytesOf (textF S)).length = 65000 := by rw [text_len, hSs.out]
              have hcall := all_ok a15 65000 c15 (bytesOf (textF S)) (textF S) 1 w17 hlenS hc15 hat15 ⟨text_right S (by rw [hSs.out]; omega) (by rw [hSs.out]; omega), rfl, by rw [hlenS]; omega⟩ (text_fits S) rfl
              clear hlenS
              go_wp2_with fail
              refine hcall.mono ?_
              rintro e w18 ⟨a18, c18, its18, rfl, _, _, _, hb18⟩
              have hfm8 := hfm7.below hb18
              replace hb18 := bnext hb17 hb18
              clear hcall hfm7 hb17 hat15
              have hcall := put_ok (some ⟨g6, 0, none⟩) 64 cv 641 (manyI 64) w18 (manyI_len 64) (many_cut hfm8) (by rw [manyI_fds]; exact many_right 64 (by omega)) (by rw [manyI_fds, many_blen]) (by omega)
              go_wp2_with fail
              refine hcall.mono ?_
              rintro e w19 ⟨a19, c19, rfl, _, _, hb19⟩
              replace hb19 := bnext hb18 hb19
              clear hcall hfm8 hb18
              go_wp2_with fail
              refine wp_region_drawn (Rel := fun w w' => Below w.heap.size w w') (Pr := pr21) (by kernel_rfl) (by kernel_rfl) (drew_below _) bel_tr pr21_on ?_ ?_
              · refine ⟨?_, ?_, ?_, ?_, ?_, ?_, ?_, ?_, ?_, ?_, ?_, ?_, ?_, trivial⟩
                · exact fun a w hR hd hk K hK => st_b1 hK
                · exact fun a w hR hd hk K hK => st_b2 hK
                · exact fun a w hR hd hk K hK => st_two hK
                · exact fun a w hR hd hk K hK => st_cut (hd 2 _ 162 rfl rfl rfl) (fun v hv => hK v w hv (Below.refl _ _))
                · exact fun a w hR hd hk K hK => st_two hK
                · exact fun a w hR hd hk K hK => st_b0 hK
                · exact fun a w hR hd hk K hK => st_more (hd 4 _ 164 rfl rfl rfl) (hd 5 _ 165 rfl rfl rfl) hK
                · exact fun a w hR hd hk K hK => st_b5 hK
                · exact fun a w hR hd hk K hK => st_b6 hK
                · exact fun a w hR hd hk K hK => st_b7 hK
                · exact fun a w hR hd hk K hK => st_bb (IsBs.bl (hd 0 _ 160 rfl rfl rfl)) (IsBs.bl (hd 1 _ 161 rfl rfl rfl)) (hd 3 _ 163 rfl rfl rfl) (hd 6 _ 166 rfl rfl rfl) (IsBs.bl (hd 7 _ 167 rfl rfl rfl)) (IsBs.bl (hd 8 _ 168 rfl rfl rfl)) (IsBs.bl (hd 9 _ 169 rfl rfl rfl)) hK
                · exact fun a w hR hd hk K hK => st_len8 (hd 10 _ 170 rfl rfl rfl) (hK _ w rfl (Below.refl _ _))
                · exact fun a w hR hd hk K hK => st_movec _ (hK _ w rfl (Below.refl _ _))
              · intro a w21 hdf hsz hkp hval hR21
                obtain ⟨f, hf⟩ : ∃ f, f = fun d => a.tmps.getD d undef := ⟨_, rfl⟩
                have hbb : IsBB (f 170) w21 := by rw [hf]; exact hval 10 _ 170 rfl rfl
                have h171 : f 171 = .int .i64 8 := by rw [hf]; exact hval 11 _ 171 rfl rfl
                have h172 : f 172 = .int .i64 0 := by rw [hf]; exact hval 12 _ 172 rfl rfl
                have hfa := act_filled hdf hsz hkp
                rw [← hf] at hfa
                rw [hfa]
                clear hdf hsz hkp hval hfa hf
                clear a
                obtain ⟨g, vs, hv9, hvl, hvc, hvf⟩ := hbb
                simp only [fillAll, List.set_cons_zero, List.set_cons_succ, hv9, h171, h172]
                clear hv9 h171 h172
                have hb21 := bnext hb19 hR21
                clear hb19 hR21
                go_wp2
                go_loopw [172] (fun i wr => ∃ j : Nat, j ≤ 8 ∧ i = .int .i64 j ∧ Below w21.heap.size w21 wr) (fun i _ => 8 - (intOf i).toNat)
                case atStart => exact ⟨0, Nat.zero_le _, rfl, Below.refl _ _⟩
                case round =>
                  obtain ⟨j, hj, rfl, hbr⟩ := hrel
                  by_cases hlt : j < 8
                  · obtain ⟨b, o, he, hc⟩ := (hvc.below hbr) (by intro e; rw [e] at hvl; simp at hvl)
                    simp only [Option.some.injEq, Addr.mk.injEq] at he
                    obtain ⟨rfl, rfl, _⟩ := he
                    have hcj := hc j (by omega)
                    obtain ⟨aj, cj, ej, lj, gj⟩ := hvf j (by omega)
                    rw [ej, Nat.zero_add] at hcj
                    have hp := all_no aj (bad j).length cj (bad j) _ rfl lj (gj.below hbr) (bad_not j)
                    have hbl := bad_len j
                    replace hvl := hid hvl
                    replace hvc := hid hvc
                    clear hc ej gj
                    generalize (bad j).length = nj at *
                    go_wp2_with fail
                    refine hp.mono ?_
                    rintro e w10 ⟨rfl, hb10⟩
                    have hb12 := bnext hbr hb10
                    go_wp2
                    go_roundw
                    case rel => exact ⟨j + 1, by omega, by go_num, hb12⟩
                    case measure => simp [intOf]; omega
                  · obtain rfl : j = 8 := by omega
                    have hbw := bnext hb21 hbr
                    clear hvl hvc hvf hbr hb21
                    go_wp2_with fail
                    refine (awake_any _).mono ?_
                    rintro e w22 ⟨rfl, hb22⟩
                    go_wp2
                    go_ret
                    exact ⟨rfl, bnext hbw hb22⟩

end Go.Proofs.Ytkkdiciadkcmmaa
