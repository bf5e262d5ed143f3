/- The document's Parse. -/
import Derived.Test.YtebdlcgegdobkaaDoorRefPrint
namespace Go.Proofs.YtebdlcgegdobkaaDoor
open Go.RowKit

/-- The nodes from F on, below k. -/
def preE (F k : Nat) : List Nat := (List.range k).filter fun x => decide (F ≤ x)

theorem pre_self (F : Nat) : preE F F = [] := by
  unfold preE
  rw [List.filter_eq_nil_iff]
  intro x hx
  simp at hx ⊢
  exact hx

theorem pre_succ {F k : Nat} (h : F ≤ k) : preE F (k + 1) = preE F k ++ [k] := by
  unfold preE
  rw [List.range_succ, List.filter_append]
  simp [h]

theorem pre_len (F : Nat) {k : Nat} (h : k < 32) : (preE F k).length ≤ 32 := by
  have := List.length_filter_le (fun x => decide (F ≤ x)) (List.range k)
  simp at this
  unfold preE
  omega

theorem emit_len (F n : Nat) : (emit F n).length ≤ 32 := by
  have := List.length_filter_le (fun k => decide (F ≤ k) && decide (k ≤ n)) (List.range 32)
  simp only [List.length_range] at this
  exact this

theorem pre_emit {F k n : Nat} (h1 : F ≤ k) (h2 : k = F ∨ k ≤ n + 1 ∧ k ≤ 32) (h3 : ¬ (k ≤ n ∧ k < 32)) : preE F k = emit F n := by
  by_cases hk : k ≤ 32
  · have e : List.range 32 = List.range k ++ (List.range (32 - k)).map (k + ·) := by
      conv => lhs; rw [show (32 : Nat) = k + (32 - k) by omega]
      exact List.range_add
    unfold preE emit
    rw [e, List.filter_append]
    have e2 : ((List.range (32 - k)).map (k + ·)).filter (fun x => decide (F ≤ x) && decide (x ≤ n)) = [] := by
      rw [List.filter_eq_nil_iff]
      intro x hx
      obtain ⟨y, hy, rfl⟩ := List.mem_map.1 hx
      simp at hy ⊢
      omega
    rw [e2, List.append_nil]
    apply List.filter_congr
    intro x hx
    simp at hx
    by_cases hF : F ≤ x
    · have : x ≤ n := by omega
      simp [hF, this]
    · simp [hF]
  · have hkF : k = F := by omega
    rw [hkF, pre_self]
    symm
    unfold emit
    rw [List.filter_eq_nil_iff]
    intro x hx
    simp at hx ⊢
    omega

/-- What the reading has behind i bytes. -/
def stAt (l : List UInt8) (i : Nat) : Int × Nat × List Nat := ((l ++ [44]).take i).foldl readR (-1, 0, [])

theorem stAt_succ {l : List UInt8} {i : Nat} (h : i < (l ++ [44]).length) : stAt l (i + 1) = readR (stAt l i) ((l ++ [44])[i]) := by
  unfold stAt
  rw [List.take_add_one, List.getElem?_eq_getElem h, List.foldl_append]
  rfl

theorem stAt_end (l : List UInt8) : (stAt l (l.length + 1)).2.2 = listR l := by
  unfold stAt listR
  rw [List.take_of_length_le (by simp)]

theorem r_dig {f : Int} {m : Nat} {L : List Nat} {c : UInt8} (h : 48 ≤ c.toNat ∧ c.toNat ≤ 57) : readR (f, m, L) c = (f, (m * 10 + (c.toNat - 48)) % 1000, L) := by
  unfold readR; rw [if_pos h]

theorem r_dash {f : Int} {m : Nat} {L : List Nat} {c : UInt8} (h : c.toNat = 45) : readR (f, m, L) c = ((m : Int), 0, L) := by
  have e : c = 45 := by apply UInt8.toNat_inj.1; exact h
  subst e; rfl

theorem r_comma {f : Int} {m : Nat} {L : List Nat} {c : UInt8} (h : c.toNat = 44) : readR (f, m, L) c = (-1, 0, L ++ emit (if f < 0 then m else f.toNat) m) := by
  have e : c = 44 := by apply UInt8.toNat_inj.1; exact h
  subst e; rfl

theorem r_other {f : Int} {m : Nat} {L : List Nat} {c : UInt8} (h1 : ¬ (48 ≤ c.toNat ∧ c.toNat ≤ 57)) (h2 : c.toNat ≠ 45) (h3 : c.toNat ≠ 44) : readR (f, m, L) c = (f, m, L) := by
  unfold readR
  rw [if_neg h1, if_neg (fun e => h2 (by rw [e]; rfl)), if_neg (fun e => h3 (by rw [e]; rfl))]

theorem of_small {L : List Nat} (h : ∀ x ∈ L, x < 32) : ofP (L2 L) = (ofN L, 0) := by
  have h1 : OkTo (L2 L) (L2 L).length := by
    intro n hn
    rw [List.take_length] at hn
    obtain ⟨x, hx, rfl⟩ := List.mem_map.1 hn
    have := h x hx
    constructor
    · exact Int.natCast_nonneg x
    · show (x : Int) < 32; omega
  rw [ofP_ok h1]
  have h2 : (L2 L).map Int.toNat = L := by
    unfold L2
    rw [List.map_map]
    conv => rhs; rw [← List.map_id L]
    apply List.map_congr_left
    intro x _
    rfl
  rw [h2]

theorem listR_lt (l : List UInt8) : ∀ x ∈ listR l, x < 32 := readR_lt _ _ _ _ (fun x hx => by simp at hx)

set_option maxRecDepth 100000 in
set_option maxHeartbeats 8000000 in
theorem parser_any (l : List UInt8) (hl : l.length ≤ 300) (w : World) :
    Calls Tryd.prog 20 #[Str l] w fun e w' => e = .returned (.tuple #[.int .u32 ((parseP l).1 : Int), .int .i64 (parseP l).2]) ∧ Below w.heap.size w w' := by
  obtain ⟨i0, hi0, hz0, hz1, hz2⟩ := info_parts info3
  obtain ⟨s, hS, hsl, hsz, hsb⟩ := str_size l
  have hget : ∀ j (h : j < s.size) (h2 : j < l.length), s[j]'h = l[j] := by subst hsb; intro j h h2; rfl
  rw [hS]
  replace hS := hid hS; replace hsl := hid hsl; replace hsb := hid hsb
  replace hget := hid hget
  go_enter Tryd.func20, Tryd.ntmps20
  go_wp2_with fail
  go_loopw [4, 5, 6, 7] (fun v fr nn ii wr => ∃ (i : Nat) (f : Int) (m : Nat) (L : List Nat), Hid (stAt l i = (f, m, L)) ∧ i ≤ l.length + 1 ∧ (-1 ≤ f ∧ f < 1000) ∧ m < 1000 ∧ L.length ≤ 32 * i ∧ NOwn wr w.heap.size v (L2 L) ∧ fr = .int .i64 f ∧ nn = .int .i64 (m : Int) ∧ ii = .int .i64 (i : Int) ∧ Below w.heap.size w wr) (fun _ _ _ ii _ => 400 - (intOf ii).toNat)
  case atStart => exact ⟨0, -1, 0, [], hid rfl, Nat.zero_le _, by omega, by omega, Nat.le_refl _, by unfold NOwn; exact World.ownsRow_nil _ _ _ _, rfl, rfl, rfl, Below.refl _ _⟩
  case round =>
    obtain ⟨i, f, m, L, hst, hi, hf, hm, hLl, hv, rfl, rfl, rfl, hb⟩ := hrel
    by_cases hle : i ≤ l.length
    · have d0 : decide (i ≤ l.length) = true := by simpa using hle
      by_cases hlt : i < l.length
      · have hix : i < s.size := by omega
        have hsu := stAt_succ (l := l) (i := i) (by simp; omega)
        rw [hst.out, List.getElem_append_left hlt] at hsu
        have hg := hget.out i hix hlt
        generalize l[i] = c at hsu hg
        have hxi : s[i]'hix = c := hg
        replace hg := hid hg
        have hc256 := c.toNat_lt
        by_cases hdig : 48 ≤ c.toNat ∧ c.toNat ≤ 57
        · have hnext := hid (hsu.trans (r_dig hdig))
          replace hsu := hid hsu
          replace hv := hid hv
          obtain ⟨d, hd⟩ : ∃ d : Nat, c.toNat = 48 + d := ⟨c.toNat - 48, by omega⟩
          rw [hd] at hnext
          rw [show 48 + d - 48 = d by omega] at hnext
          have hd10 : d < 10 := by omega
          go_wp2_with fail
          refine ⟨⟨i + 1, f, (m * 10 + d) % 1000, L, hnext, by omega, hf, Nat.mod_lt _ (by omega), by omega, hv.out, rfl, ?_, by go_num, hb⟩, by simp [intOf]; omega⟩
          congr 1
          omega
        · by_cases h45 : c.toNat = 45
          · have hnext := hid (hsu.trans (r_dash h45))
            replace hsu := hid hsu
            replace hv := hid hv
            go_wp2_with fail
            exact ⟨⟨i + 1, (m : Int), 0, L, hnext, by omega, by omega, by omega, by omega, hv.out, rfl, rfl, by go_num, hb⟩, by simp [intOf]; omega⟩
          · by_cases h44 : c.toNat = 44
            · have hnext := hid (hsu.trans (r_comma h44))
              replace hsu := hid hsu
              by_cases hfneg : f < 0
              · have hfn : f < 0 := hfneg
                have d4 : decide (f < 0) = true := by simpa using hfneg
                obtain ⟨F, hF⟩ : ∃ F : Nat, F = m := ⟨_, rfl⟩
                have hnext2 := hid (show stAt l (i + 1) = (-1, 0, L ++ emit F m) by rw [hF, hnext.out, if_pos hfneg])
                have hF1000 : F < 1000 := by omega
                have hFv : (m : Int) = (F : Int) := by rw [hF]
                replace hF := hid hF
                replace hFv := hid hFv
                go_wp2_with fail
                go_loopw [4, 9] (fun v k wr => ∃ q : Nat, F ≤ q ∧ (q = F ∨ q ≤ m + 1 ∧ q ≤ 32) ∧ k = .int .i64 (q : Int) ∧ NOwn wr w.heap.size v (L2 (L ++ preE F q)) ∧ Below w.heap.size w wr) (fun _ k _ => 1001 - (intOf k).toNat)
                case atStart => exact ⟨F, Nat.le_refl _, .inl rfl, by rw [hFv.out], by rw [pre_self, List.append_nil]; exact hv, hb⟩
                case round =>
                  obtain ⟨q, hq1, hq2, rfl, hv2, hb2⟩ := hrel
                  by_cases hgo : q ≤ m ∧ q < 32
                  · have dq1 : decide (q ≤ m) = true := by simpa using hgo.1
                    have dq2 : decide (q < 32) = true := by simpa using hgo.2
                    have hlp := pre_len F hgo.2
                    have hl2 : (L2 (L ++ preE F q)).length ≤ 10000 := by simp [L2]; omega
                    have hps := hid (pre_succ hq1)
                    replace hv2 := hid hv2
                    go_wp2_with (at_builtin; refine Hid.out ?_)
                    have bl := below_lit wr (.cells #[.int .i64 (q : Int)] 3)
                    have hv3 := owns_below hv2.out bl
                    have B1 := bnext hb2 bl
                    refine wpList_cat _ rfl (.tmp 59) (.tmp 61) 22 rfl w.heap.size 3 i0 _ 1 8 Tryd.underlying22 hi0 hz0 hz1 hz2 rfl (by omega) _ _ _ rfl hv3 (some ⟨wr.heap.size, 0, none⟩) 1 _ [.int .i64 (q : Int)] rfl rfl (cat_lit _ _ _ _ rfl) (int_one _) (by unfold maxLen; omega) (by omega) B1.size ?_
                    intro v4 w4 hr4 hg4 hv4
                    go_wp2_with fail
                    go_roundw
                    case rel =>
                      refine ⟨q + 1, by omega, .inr (by omega), by go_num, ?_, B1.grown hg4 B1.size (fun k hk => (hv3.lt k hk).1)⟩
                      rw [hps.out]
                      unfold NOwn
                      simpa [L2, I, Nat.add_assoc] using hr4
                    case measure => simp [intOf]; omega
                  · have hend := pre_emit (n := m) hq1 hq2 (by omega)
                    rw [hend] at hv2
                    replace hv2 := hid hv2
                    by_cases hqm : q ≤ m
                    · have dq1 : decide (q ≤ m) = true := by simpa using hqm
                      have dq2 : decide (q < 32) = false := by simp; omega
                      go_wp2_with fail
                      go_roundw
                      case rel => exact ⟨i + 1, _, _, _, hnext2, by omega, by omega, by omega, by simp; have := emit_len F m; omega, hv2.out, rfl, rfl, by go_num, hb2⟩
                      case measure => simp [intOf]; omega
                    · have dq1 : decide (q ≤ m) = false := by simpa using hqm
                      go_wp2_with fail
                      go_roundw
                      case rel => exact ⟨i + 1, _, _, _, hnext2, by omega, by omega, by omega, by simp; have := emit_len F m; omega, hv2.out, rfl, rfl, by go_num, hb2⟩
                      case measure => simp [intOf]; omega
              · have d4 : decide (f < 0) = false := by simpa using hfneg
                obtain ⟨F, hF⟩ : ∃ F : Nat, f = (F : Int) := ⟨f.toNat, by omega⟩
                have hnext2 := hid (show stAt l (i + 1) = (-1, 0, L ++ emit F m) by rw [hnext.out, if_neg hfneg, hF, Int.toNat_natCast])
                have hF1000 : F < 1000 := by omega
                subst hF
                go_wp2_with fail
                go_loopw [4, 9] (fun v k wr => ∃ q : Nat, F ≤ q ∧ (q = F ∨ q ≤ m + 1 ∧ q ≤ 32) ∧ k = .int .i64 (q : Int) ∧ NOwn wr w.heap.size v (L2 (L ++ preE F q)) ∧ Below w.heap.size w wr) (fun _ k _ => 1001 - (intOf k).toNat)
                case atStart => exact ⟨F, Nat.le_refl _, .inl rfl, rfl, by rw [pre_self, List.append_nil]; exact hv, hb⟩
                case round =>
                  obtain ⟨q, hq1, hq2, rfl, hv2, hb2⟩ := hrel
                  by_cases hgo : q ≤ m ∧ q < 32
                  · have dq1 : decide (q ≤ m) = true := by simpa using hgo.1
                    have dq2 : decide (q < 32) = true := by simpa using hgo.2
                    have hlp := pre_len F hgo.2
                    have hl2 : (L2 (L ++ preE F q)).length ≤ 10000 := by simp [L2]; omega
                    have hps := hid (pre_succ hq1)
                    replace hv2 := hid hv2
                    go_wp2_with (at_builtin; refine Hid.out ?_)
                    have bl := below_lit wr (.cells #[.int .i64 (q : Int)] 3)
                    have hv3 := owns_below hv2.out bl
                    have B1 := bnext hb2 bl
                    refine wpList_cat _ rfl (.tmp 59) (.tmp 61) 22 rfl w.heap.size 3 i0 _ 1 8 Tryd.underlying22 hi0 hz0 hz1 hz2 rfl (by omega) _ _ _ rfl hv3 (some ⟨wr.heap.size, 0, none⟩) 1 _ [.int .i64 (q : Int)] rfl rfl (cat_lit _ _ _ _ rfl) (int_one _) (by unfold maxLen; omega) (by omega) B1.size ?_
                    intro v4 w4 hr4 hg4 hv4
                    go_wp2_with fail
                    go_roundw
                    case rel =>
                      refine ⟨q + 1, by omega, .inr (by omega), by go_num, ?_, B1.grown hg4 B1.size (fun k hk => (hv3.lt k hk).1)⟩
                      rw [hps.out]
                      unfold NOwn
                      simpa [L2, I, Nat.add_assoc] using hr4
                    case measure => simp [intOf]; omega
                  · have hend := pre_emit (n := m) hq1 hq2 (by omega)
                    rw [hend] at hv2
                    replace hv2 := hid hv2
                    by_cases hqm : q ≤ m
                    · have dq1 : decide (q ≤ m) = true := by simpa using hqm
                      have dq2 : decide (q < 32) = false := by simp; omega
                      go_wp2_with fail
                      go_roundw
                      case rel => exact ⟨i + 1, _, _, _, hnext2, by omega, by omega, by omega, by simp; have := emit_len F m; omega, hv2.out, rfl, rfl, by go_num, hb2⟩
                      case measure => simp [intOf]; omega
                    · have dq1 : decide (q ≤ m) = false := by simpa using hqm
                      go_wp2_with fail
                      go_roundw
                      case rel => exact ⟨i + 1, _, _, _, hnext2, by omega, by omega, by omega, by simp; have := emit_len F m; omega, hv2.out, rfl, rfl, by go_num, hb2⟩
                      case measure => simp [intOf]; omega
            · have hnext := hid (hsu.trans (r_other hdig h45 h44))
              replace hsu := hid hsu
              replace hv := hid hv
              have x45 : ((c.toNat : Int) == 45) = false := by simp; omega
              have x44 : ((c.toNat : Int) == 44) = false := by simp; omega
              by_cases h48 : 48 ≤ c.toNat
              · have y1 : decide (48 ≤ (c.toNat : Int)) = true := by simp; omega
                have y2 : decide ((c.toNat : Int) ≤ 57) = false := by simp; omega
                go_wp2_with fail
                exact ⟨⟨i + 1, f, m, L, hnext, by omega, hf, hm, by omega, hv.out, rfl, rfl, by go_num, hb⟩, by simp [intOf]; omega⟩
              · have y1 : decide (48 ≤ (c.toNat : Int)) = false := by simp; omega
                go_wp2_with fail
                exact ⟨⟨i + 1, f, m, L, hnext, by omega, hf, hm, by omega, hv.out, rfl, rfl, by go_num, hb⟩, by simp [intOf]; omega⟩
      · have hie : i = l.length := by omega
        have hsu := stAt_succ (l := l) (i := i) (by simp; omega)
        have hc : (l ++ [44])[i]'(by simp; omega) = 44 := by subst hie; simp
        rw [hst.out, hc] at hsu
        have hnext := hid (hsu.trans (r_comma rfl))
        replace hsu := hid hsu
        have d1 : decide (i < l.length) = false := by simpa using hlt
        have hi300 : i ≤ 300 := by omega
        clear hc hlt
        replace hie := hid hie
        by_cases hfneg : f < 0
        · have hfn : f < 0 := hfneg
          have d4 : decide (f < 0) = true := by simpa using hfneg
          obtain ⟨F, hF⟩ : ∃ F : Nat, F = m := ⟨_, rfl⟩
          have hnext2 := hid (show stAt l (i + 1) = (-1, 0, L ++ emit F m) by rw [hF, hnext.out, if_pos hfneg])
          have hF1000 : F < 1000 := by omega
          have hFv : (m : Int) = (F : Int) := by rw [hF]
          replace hF := hid hF
          replace hFv := hid hFv
          go_wp2_with fail
          go_loopw [4, 9] (fun v k wr => ∃ q : Nat, F ≤ q ∧ (q = F ∨ q ≤ m + 1 ∧ q ≤ 32) ∧ k = .int .i64 (q : Int) ∧ NOwn wr w.heap.size v (L2 (L ++ preE F q)) ∧ Below w.heap.size w wr) (fun _ k _ => 1001 - (intOf k).toNat)
          case atStart => exact ⟨F, Nat.le_refl _, .inl rfl, by rw [hFv.out], by rw [pre_self, List.append_nil]; exact hv, hb⟩
          case round =>
            obtain ⟨q, hq1, hq2, rfl, hv2, hb2⟩ := hrel
            by_cases hgo : q ≤ m ∧ q < 32
            · have dq1 : decide (q ≤ m) = true := by simpa using hgo.1
              have dq2 : decide (q < 32) = true := by simpa using hgo.2
              have hlp := pre_len F hgo.2
              have hl2 : (L2 (L ++ preE F q)).length ≤ 10000 := by simp [L2]; omega
              have hps := hid (pre_succ hq1)
              replace hv2 := hid hv2
              go_wp2_with (at_builtin; refine Hid.out ?_)
              have bl := below_lit wr (.cells #[.int .i64 (q : Int)] 3)
              have hv3 := owns_below hv2.out bl
              have B1 := bnext hb2 bl
              refine wpList_cat _ rfl (.tmp 59) (.tmp 61) 22 rfl w.heap.size 3 i0 _ 1 8 Tryd.underlying22 hi0 hz0 hz1 hz2 rfl (by omega) _ _ _ rfl hv3 (some ⟨wr.heap.size, 0, none⟩) 1 _ [.int .i64 (q : Int)] rfl rfl (cat_lit _ _ _ _ rfl) (int_one _) (by unfold maxLen; omega) (by omega) B1.size ?_
              intro v4 w4 hr4 hg4 hv4
              go_wp2_with fail
              go_roundw
              case rel =>
                refine ⟨q + 1, by omega, .inr (by omega), by go_num, ?_, B1.grown hg4 B1.size (fun k hk => (hv3.lt k hk).1)⟩
                rw [hps.out]
                unfold NOwn
                simpa [L2, I, Nat.add_assoc] using hr4
              case measure => simp [intOf]; omega
            · have hend := pre_emit (n := m) hq1 hq2 (by omega)
              rw [hend] at hv2
              replace hv2 := hid hv2
              by_cases hqm : q ≤ m
              · have dq1 : decide (q ≤ m) = true := by simpa using hqm
                have dq2 : decide (q < 32) = false := by simp; omega
                go_wp2_with fail
                go_roundw
                case rel => exact ⟨i + 1, _, _, _, hnext2, by omega, by omega, by omega, by simp; have := emit_len F m; omega, hv2.out, rfl, rfl, by go_num, hb2⟩
                case measure => simp [intOf]; omega
              · have dq1 : decide (q ≤ m) = false := by simpa using hqm
                go_wp2_with fail
                go_roundw
                case rel => exact ⟨i + 1, _, _, _, hnext2, by omega, by omega, by omega, by simp; have := emit_len F m; omega, hv2.out, rfl, rfl, by go_num, hb2⟩
                case measure => simp [intOf]; omega
        · have d4 : decide (f < 0) = false := by simpa using hfneg
          obtain ⟨F, hF⟩ : ∃ F : Nat, f = (F : Int) := ⟨f.toNat, by omega⟩
          have hnext2 := hid (show stAt l (i + 1) = (-1, 0, L ++ emit F m) by rw [hnext.out, if_neg hfneg, hF, Int.toNat_natCast])
          have hF1000 : F < 1000 := by omega
          subst hF
          go_wp2_with fail
          go_loopw [4, 9] (fun v k wr => ∃ q : Nat, F ≤ q ∧ (q = F ∨ q ≤ m + 1 ∧ q ≤ 32) ∧ k = .int .i64 (q : Int) ∧ NOwn wr w.heap.size v (L2 (L ++ preE F q)) ∧ Below w.heap.size w wr) (fun _ k _ => 1001 - (intOf k).toNat)
          case atStart => exact ⟨F, Nat.le_refl _, .inl rfl, rfl, by rw [pre_self, List.append_nil]; exact hv, hb⟩
          case round =>
            obtain ⟨q, hq1, hq2, rfl, hv2, hb2⟩ := hrel
            by_cases hgo : q ≤ m ∧ q < 32
            · have dq1 : decide (q ≤ m) = true := by simpa using hgo.1
              have dq2 : decide (q < 32) = true := by simpa using hgo.2
              have hlp := pre_len F hgo.2
              have hl2 : (L2 (L ++ preE F q)).length ≤ 10000 := by simp [L2]; omega
              have hps := hid (pre_succ hq1)
              replace hv2 := hid hv2
              go_wp2_with (at_builtin; refine Hid.out ?_)
              have bl := below_lit wr (.cells #[.int .i64 (q : Int)] 3)
              have hv3 := owns_below hv2.out bl
              have B1 := bnext hb2 bl
              refine wpList_cat _ rfl (.tmp 59) (.tmp 61) 22 rfl w.heap.size 3 i0 _ 1 8 Tryd.underlying22 hi0 hz0 hz1 hz2 rfl (by omega) _ _ _ rfl hv3 (some ⟨wr.heap.size, 0, none⟩) 1 _ [.int .i64 (q : Int)] rfl rfl (cat_lit _ _ _ _ rfl) (int_one _) (by unfold maxLen; omega) (by omega) B1.size ?_
              intro v4 w4 hr4 hg4 hv4
              go_wp2_with fail
              go_roundw
              case rel =>
                refine ⟨q + 1, by omega, .inr (by omega), by go_num, ?_, B1.grown hg4 B1.size (fun k hk => (hv3.lt k hk).1)⟩
                rw [hps.out]
                unfold NOwn
                simpa [L2, I, Nat.add_assoc] using hr4
              case measure => simp [intOf]; omega
            · have hend := pre_emit (n := m) hq1 hq2 (by omega)
              rw [hend] at hv2
              replace hv2 := hid hv2
              by_cases hqm : q ≤ m
              · have dq1 : decide (q ≤ m) = true := by simpa using hqm
                have dq2 : decide (q < 32) = false := by simp; omega
                go_wp2_with fail
                go_roundw
                case rel => exact ⟨i + 1, _, _, _, hnext2, by omega, by omega, by omega, by simp; have := emit_len F m; omega, hv2.out, rfl, rfl, by go_num, hb2⟩
                case measure => simp [intOf]; omega
              · have dq1 : decide (q ≤ m) = false := by simpa using hqm
                go_wp2_with fail
                go_roundw
                case rel => exact ⟨i + 1, _, _, _, hnext2, by omega, by omega, by omega, by simp; have := emit_len F m; omega, hv2.out, rfl, rfl, by go_num, hb2⟩
                case measure => simp [intOf]; omega
    · have hie : i = l.length + 1 := by omega
      have d0 : decide (i ≤ l.length) = false := by simpa using hle
      have hL : L = listR l := by
        have h1 := stAt_end l
        rw [← hie, hst.out] at h1
        exact h1
      obtain ⟨a4, c4, rfl, hc4⟩ := owns_form hv
      have kof := ofr_any a4 (L2 L).length c4 (L2 L) wr rfl (by simp [L2]; omega) (owns_cat hv)
      rw [of_small (by rw [hL]; exact listR_lt l)] at kof
      generalize (L2 L).length = n4 at *
      replace hv := hid hv
      have hsame := hid (parse_same l)
      go_wp2_with fail
      refine kof.mono ?_
      rintro e w1 ⟨rfl, rfl⟩
      by_cases h4 : l = none4
      · have hR : setR l = 0 := by unfold setR; rw [if_pos h4]
        have hp0 := hid (show parseP l = (0, 0) by rw [h4]; rfl)
        have hpl : pr 0 = l := by rw [h4]; rfl
        have hne : (s.toList == [110, 111, 110, 101]) = true := by rw [hsl.out, h4]; rfl
        have hne2 : ([110, 111, 110, 101] == s.toList) = true := by rw [hsl.out, h4]; rfl
        have kp := fun w => printr_any 0 (by omega) w
        rw [hpl, hS.out] at kp
        replace hpl := hid hpl
        replace h4 := hid h4
        go_wp2_with fail
        refine (kp _).mono ?_
        rintro e w2 ⟨rfl, hb2⟩
        go_wp2
        go_ret2
        rw [hp0.out]
        exact ⟨rfl, bnext hb hb2⟩
      · have hR : setR l = ofN L := by unfold setR; rw [if_neg h4, hL]
        have hlt := setR_lt l
        rw [hR] at hlt
        have hne : (s.toList == [110, 111, 110, 101]) = false := by rw [hsl.out]; simpa [none4] using h4
        have hne2 : ([110, 111, 110, 101] == s.toList) = false := by rw [hsl.out]; simpa [none4] using fun e => h4 e.symm
        have kp := fun w => printr_any (ofN L) hlt w
        have hdef : parseP l = if pr (ofN L) = l then (ofN L, 0) else (0, 100) := by rw [← hsame.out]; unfold parseR; rw [hR]
        replace h4 := hid h4
        replace hL := hid hL
        generalize ofN L = S at *
        by_cases hp : pr S = l
        · have hfin := hid (hdef.trans (if_pos hp))
          rw [hp, hS.out] at kp
          clear hdef
          replace hp := hid hp
          go_wp2_with fail
          refine (kp _).mono ?_
          rintro e w2 ⟨rfl, hb2⟩
          go_wp2
          go_ret2
          rw [hfin.out]
          exact ⟨rfl, bnext hb hb2⟩
        · have hfin := hid (hdef.trans (if_neg hp))
          obtain ⟨p, hpS, hpl, hpz, hpb⟩ := str_size (pr S)
          clear hpz hpb
          have hne3 : (p.toList == s.toList) = false := by rw [hpl, hsl.out]; simpa using hp
          rw [hpS] at kp
          clear hdef
          replace hpS := hid hpS
          replace hpl := hid hpl
          replace hp := hid hp
          go_wp2_with fail
          refine (kp _).mono ?_
          rintro e w2 ⟨rfl, hb2⟩
          go_wp2
          go_ret2
          rw [hfin.out]
          exact ⟨rfl, bnext hb hb2⟩

end Go.Proofs.YtebdlcgegdobkaaDoor
