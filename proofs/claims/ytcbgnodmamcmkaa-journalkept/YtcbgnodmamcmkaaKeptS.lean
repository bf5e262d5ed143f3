/- JournalKept: a state's bytes; whether what is told is a beginning of what was appended. -/
import Derived.Test.YtcbgnodmamcmkaaKeptM
namespace Go.Proofs.Ytcbgnodmamcmkaa
open Go.RowKit

/-- The state that stands for n records (n below 256). -/
def stK (n : Nat) : List UInt8 := if n < 256 then [0, 0, UInt8.ofNat n] ++ madeL n (n % 40) else []

theorem stK_len (n : Nat) : (stK n).length ≤ 1000 := by
  unfold stK
  split
  · simp [madeL_len]; omega
  · simp
theorem stK_of {n : Nat} (h : n < 256) : stK n = [0, 0, UInt8.ofNat n] ++ madeL n (n % 40) := by unfold stK; rw [if_pos h]

theorem at_catk {w : World} {a : Option Addr} {l : List UInt8} (h : At w a l) : CAt w a (l.map B) := by
  intro hne
  obtain ⟨b, o, e, hc⟩ := h (by intro e; subst e; exact hne rfl)
  refine ⟨b, o, e, fun i hi => ?_⟩
  rw [hc i (by simpa using hi)]
  simp [B]

theorem cat_at {w : World} {a : Option Addr} {l : List UInt8} (h : CAt w a (l.map B)) : At w a l := by
  intro hne
  obtain ⟨b, o, e, hc⟩ := h (by simpa using hne)
  refine ⟨b, o, e, fun i hi => ?_⟩
  have := hc i (by simpa using hi)
  rw [this]
  simp [B]

set_option maxRecDepth 100000 in
set_option maxHeartbeats 1000000 in
theorem state_any (n : Nat) (w : World) (hn : n < 256) : Calls Try.prog 36 #[.int .i64 (n : Int)] w fun e w' => ∃ a c, e = .returned (.slice a (stK n).length c) ∧ (stK n).length ≤ c ∧ At w' a (stK n) ∧ Below w.heap.size w w' := by
  obtain ⟨i5, hi5, z50, z51, z52⟩ := info_parts info5
  have kM := fun w => made_fun (n : Int) (n % 40) w (by omega)
  rw [show ((n % 40 : Nat) : Int) = (n : Int) % 40 by omega] at kM
  have e1 : (n : Int) / 65536 = 0 := by omega
  have e2 : (n : Int) / 256 = 0 := by omega
  have hst := stK_of hn
  have hsl : (stK n).length = 3 + n % 40 := by rw [hst]; simp [madeL_len]; omega
  have hn8 : ((UInt8.ofNat n).toNat : Int) = (n : Int) := by rw [UInt8.toNat_ofNat']; omega
  have hm40 : n % 40 ≤ 40 := by omega
  have bl := below_lit w (.cells #[.int .u8 0, .int .u8 0, .int .u8 (n : Int)] 5)
  have hown : (w.alloc (.cells #[.int .u8 0, .int .u8 0, .int .u8 (n : Int)] 5)).ownsRow w.heap.size 5 1 (.slice (some ⟨w.heap.size, 0, none⟩) 3 3) 3 [.int .u8 0, .int .u8 0, .int .u8 (n : Int)] :=
    ⟨rfl, .inr ⟨w.heap.size, 3, #[.int .u8 0, .int .u8 0, .int .u8 (n : Int)], rfl, Nat.le_refl _, heap_alloc_new _ _, Nat.le_refl _, by unfold maxLen; omega, rfl, rfl⟩⟩
  replace hst := hid hst
  replace hsl := hid hsl
  replace hn8 := hid hn8
  replace hown := hid hown
  obtain ⟨R, hR⟩ : ∃ R : Nat, R = n % 40 := ⟨_, rfl⟩
  rw [← hR] at kM hm40
  replace hR := hid hR
  go_enter Try.func36, Try.ntmps36
  go_wp2_with fail
  refine (kM _).mono ?_
  rintro e w1 ⟨g, rfl, hg, hrow, hb1⟩
  have hown1 := hid (owns_below hown.out hb1)
  have hmat := hid (at_catk hrow.at)
  have hml := hid (madeL_len (n : Int) R)
  have B1 := bnext bl hb1
  generalize hML : madeL (n : Int) R = ML at *
  replace hML := hid hML
  go_wp2_with (at_builtin; refine Hid.out ?_)
  refine wpList_cat _ rfl (.tmp 11) (.tmp 15) 22 rfl w.heap.size 5 i5 _ 1 1 Try.underlying22 hi5 z50 z51 z52 rfl (by omega) _ _ _ rfl hown1.out (some ⟨g, 0, none⟩) R _ (ML.map B) rfl (by rw [List.length_map, hml.out]; omega) hmat.out (B_one _) (by unfold maxLen; omega) (by omega) B1.size ?_
  intro v' w2 ho2 hg2 hv2
  have B2 : Below w.heap.size w w2 := Below.grown B1 hg2 B1.size (fun j hj => (hown1.out.lt _ hj).1)
  obtain ⟨va, vc, e, hvc⟩ := owns_form ho2
  subst e
  have hcat := owns_cat ho2
  replace ho2 := hid ho2
  replace hcat := hid hcat
  clear hg2 hv2
  go_wp2
  go_ret
  have hlen : (stK n).length = 3 + R := by rw [hsl.out, hR.out]
  refine ⟨va, vc, by rw [hlen]; rfl, by rw [hlen]; exact hvc, ?_, B2⟩
  refine cat_at ?_
  have := hcat.out
  rw [hst.out]
  rw [← hR.out, hML.out]
  simp only [List.map_append, List.map_cons, List.map_nil, B, hn8.out]
  exact this

theorem or_all : ∀ q : Fin 256, bits BinOp.or IntKind.i64 (bits BinOp.or IntKind.i64 0 0) ((q : Nat) : Int) = ((q : Nat) : Int) := by decide +kernel
theorem or_q {q : Nat} (h : q < 256) : bits BinOp.or IntKind.i64 (bits BinOp.or IntKind.i64 0 0) (q : Int) = (q : Int) := or_all ⟨q, h⟩

/-- Records in memory as they were appended. -/
def AllM (all : List KB) (M : List Rm) : Prop := M.map Rm.plain = plainL 1 all

theorem allm_len {all : List KB} {M : List Rm} (h : AllM all M) : M.length = all.length := by
  have := congrArg List.length h
  rwa [List.length_map, plainL_len] at this

theorem rat_drop {w : World} {g c : Nat} {M : List Rm} (h : RAt w (some ⟨g, 0, none⟩) M) (q k : Nat) (_hc : c = 0) : RAt w (some ⟨g, 0 + q * 3, none⟩) ((M.drop q).take k) := by
  refine ⟨fun hne => ?_, fun i hi => h.2 i (List.mem_of_mem_drop (List.mem_of_mem_take hi))⟩
  have hMne : M ≠ [] := fun e => hne (by subst e; simp)
  have hlen := rmLen M
  have hlen2 := rmLen ((M.drop q).take k)
  obtain ⟨b, o, e, hc⟩ := h.1 (fun e => by rw [e] at hlen; simp at hlen; exact hMne (List.eq_nil_of_length_eq_zero (by omega)))
  cases e
  refine ⟨g, 0 + q * 3, rfl, fun i hi => ?_⟩
  have hsp : M.flatMap Rm.cells = (M.take q).flatMap Rm.cells ++ (((M.drop q).take k).flatMap Rm.cells ++ ((M.drop q).drop k).flatMap Rm.cells) := by
    rw [← List.flatMap_append, List.take_append_drop, ← List.flatMap_append, List.take_append_drop]
  have hql : q ≤ M.length := by
    rcases Nat.lt_or_ge M.length q with h1 | h1
    · exfalso; apply hne; rw [List.drop_eq_nil_of_le (by omega)]; simp
    · exact h1
  have h3 : ((M.take q).flatMap Rm.cells).length = q * 3 := by rw [rmLen, List.length_take]; congr 1; omega
  have hi2 : q * 3 + i < (M.flatMap Rm.cells).length := by rw [hsp, List.length_append, List.length_append]; omega
  have := hc (q * 3 + i) hi2
  rw [show 0 + q * 3 + i = 0 + (q * 3 + i) by omega, this]
  congr 1
  simp only [hsp]
  rw [List.getElem_append_right (by omega), List.getElem_append_left (by omega)]
  congr 1
  omega

theorem plain_drop {all : List KB} {M : List Rm} {q m : Nat} (h : AllM all M) (hm : m ≤ all.length) : ((M.drop q).take (seg all q m).length).map Rm.plain = plainL (q + 1) (seg all q m) := by
  have hl := seg_len (all := all) (a := q) hm
  rw [List.map_take, List.map_drop, show M.map Rm.plain = plainL 1 all from h, plainL_drop, hl, show 1 + q = q + 1 by omega]
  unfold seg
  rw [plainL_take]

set_option maxRecDepth 100000 in
set_option maxHeartbeats 4000000 in
theorem right_k (all : List KB) (M rs : List Rm) (va sa ra : Option Addr) (vc sc rc q m : Nat) (hv : Bool) (w : World) (hM : AllM all M) (hRM : RAt w va M) (hplace : ∀ ad, va = some ad → ∃ g, ad = ⟨g, 0, none⟩) (hvc : all.length ≤ vc) (hv0 : va = none → vc = 0)
    (hsat : At w sa (if hv = true then stK q else [])) (hq0 : hv = false → q = 0) (hrs : RAt w ra rs) (hpl : rs.map Rm.plain = plainL (q + 1) (seg all q m)) (hq : q ≤ all.length) (hm : m ≤ all.length) (hall : all.length < 256) :
    Calls Try.prog 39 #[.slice va all.length vc, .slice sa (if hv = true then stK q else []).length sc, .slice ra rs.length rc] w fun e w' => e = .returned (.int .i64 ((max q m : Nat) : Int)) ∧ Below w.heap.size w w' := by
  have hsl := seg_len (all := all) (a := q) hm
  have hrl : rs.length = m - q := by
    have := congrArg List.length hpl
    rwa [List.length_map, plainL_len, hsl] at this
  have hmax : max q m = q + (m - q) := by omega
  have hMl := allm_len hM
  obtain ⟨k, hk⟩ : ∃ k, k = m - q := ⟨_, rfl⟩
  rw [← hk] at hrl hmax
  rw [hrl, hmax]
  have hqk : q + k ≤ all.length := by omega
  -- the records, as SameRecords sees them
  have kR : ∀ w2, Below w.heap.size w w2 → ∀ c2, Calls Try.prog 17 #[.slice ra k rc, .slice (va.map fun ad => ⟨ad.block, 0 + q * 3, none⟩) k c2] w2 fun e w' => e = .returned (.bool true) ∧ Below w2.heap.size w2 w' := fun w2 hb c2 => by
    refine samer_any ra _ k k rc c2 rs ((M.drop q).take k) w2 hrl (by rw [List.length_take, List.length_drop]; omega) (by omega) (hrs.below hb) ?_ ?_
    · cases va with
      | none =>
        have hM0 : M = [] := by
          rcases M with _ | ⟨y, r⟩
          · rfl
          · obtain ⟨b, o, e, _⟩ := hRM.1 (by simp [Rm.cells]); cases e
        subst hM0
        simp
        exact ⟨CAt.nil _ _, fun i hi => by cases hi⟩
      | some ad =>
        obtain ⟨g, rfl⟩ := hplace ad rfl
        exact rat_drop (c := 0) (hRM.below hb) q k rfl
    · rw [hpl, ← plain_drop (q := q) (m := m) hM hm, hsl, hk]
  replace hM := hid hM
  replace hMl := hid hMl
  generalize hNN : all.length = NN at *
  replace hNN := hid hNN
  have g1 : decide ((NN : Int) < ((q : Int) + (k : Int))) = false := by simp; omega
  have w1 : IntKind.i64.wrap ((q : Int) + (k : Int)) = (q : Int) + (k : Int) := by rw [IntKind.wrap_i64]; omega
  have i0 : (0 : Int) ≤ (q : Int) := by omega
  have i1 : (q : Int) ≤ (q : Int) + (k : Int) := by omega
  have i2 : (q : Int) + (k : Int) ≤ (vc : Int) := by omega
  replace hRM := hid hRM
  replace hrs := hid hrs
  replace hpl := hid hpl
  replace hsl := hid hsl
  replace hmax := hid hmax
  replace hk := hid hk
  replace kR := hid kR
  replace hrl := hid hrl
  cases hv with
  | false =>
    have := hq0 rfl
    subst this
    simp only [Bool.false_eq_true, if_false, List.length_nil]
    cases va with
    | none =>
      have := hv0 rfl
      subst this
      have hk0 : k = 0 := by omega
      subst hk0
      have hN0 : NN = 0 := by omega
      subst hN0
      have kR1 := kR.out w (Below.refl _ _) 0
      simp only [Option.map_none] at kR1
      go_enter Try.func39, Try.ntmps39
      go_wp2_with fail
      refine kR1.mono ?_
      rintro e w2 ⟨rfl, hb2⟩
      go_wp2
      go_ret
      exact ⟨rfl, hb2⟩
    | some ad =>
      obtain ⟨g, rfl⟩ := hplace ad rfl
      have kR1 := kR.out w (Below.refl _ _) vc
      simp only [Option.map_some, Nat.zero_mul, Nat.add_zero] at kR1
      have g2 : decide ((NN : Int) < (k : Int)) = false := by simp; omega
      have i4 : (k : Int) ≤ (vc : Int) := by omega
      have i5 : k ≤ vc := by omega
      go_enter Try.func39, Try.ntmps39
      go_wp2_with fail
      refine kR1.mono ?_
      rintro e w2 ⟨rfl, hb2⟩
      go_wp2
      go_ret
      exact ⟨by simp, hb2⟩
  | true =>
    simp only [if_true] at hsat ⊢
    have hst := stK_of (n := q) (by omega)
    have kS := fun w => state_any q w (by omega)
    have hL3 : 3 ≤ (stK q).length := by rw [hst]; simp
    have hL9 : (stK q).length ≤ 1000 := stK_len q
    obtain ⟨sb, so, e, hsc⟩ := hsat (fun e => by rw [e] at hL3; simp at hL3)
    subst e
    have s0 := hsc 0 (by omega)
    have s1 := hsc 1 (by omega)
    have s2 := hsc 2 (by omega)
    have q8 : ((UInt8.ofNat q).toNat : Int) = (q : Int) := by rw [UInt8.toNat_ofNat']; omega
    simp only [hst, List.cons_append, List.getElem_cons_zero, List.getElem_cons_succ, Nat.add_zero, q8] at s0 s1 s2
    replace s0 : w.cell? ⟨sb, so, none⟩ = some (.int .u8 0) := s0
    replace s1 : w.cell? ⟨sb, so + 1, none⟩ = some (.int .u8 0) := s1
    clear hsc q8
    replace hst := hid hst
    generalize hSB : stK q = SB at *
    replace hSB := hid hSB
    generalize hLL : SB.length = LL at *
    have d0 : decide ((0 : Int) < (LL : Int)) = true := by simp; omega
    have d3 : decide ((LL : Int) < 3) = false := by simp; omega
    replace hLL := hid hLL
    go_enter Try.func39, Try.ntmps39
    go_wp2_with fail
    go_quiet (fail)
    have hor := or_q (q := q) (by omega)
    have B0 := below_drewN (Below.refl w.heap.size w) nq
    go_wp2_with fail
    refine (kS _).mono ?_
    rintro e w3 ⟨ta, tc, rfl, htc, htat, hb3⟩
    have B3 := bnext B0 hb3
    have kSB := same_any (some ⟨sb, so, none⟩) ta LL LL sc tc SB SB w3 hLL.out hLL.out (hsat.below B3) htat rfl
    have kR1 := kR.out w3 B3
    replace htat := hid htat
    rw [hor]
    replace hor := hid hor
    cases va with
    | none =>
      have := hv0 rfl
      subst this
      have hk0 : k = 0 := by omega
      subst hk0
      have hq1 : q = 0 := by omega
      subst hq1
      have hN0 : NN = 0 := by omega
      subst hN0
      replace kR1 := kR1 0
      simp only [Option.map_none] at kR1
      go_wp2_with fail
      refine kSB.mono ?_
      rintro e w4 ⟨rfl, rfl⟩
      go_wp2_with fail
      refine kR1.mono ?_
      rintro e w5 ⟨rfl, hb5⟩
      have B5 := bnext B3 hb5
      go_wp2
      go_ret
      exact ⟨rfl, B5⟩
    | some ad =>
      obtain ⟨g, rfl⟩ := hplace ad rfl
      by_cases hcap : vc = q
      · have hk0 : k = 0 := by omega
        subst hk0
        subst hcap
        have kR0 := samer_any ra (some ⟨g, 0, none⟩) 0 0 rc 0 [] [] w3 rfl rfl (by omega) ⟨CAt.nil _ _, fun i hi => by cases hi⟩ ⟨CAt.nil _ _, fun i hi => by cases hi⟩ rfl
        go_wp2_with fail
        refine kSB.mono ?_
        rintro e w4 ⟨rfl, rfl⟩
        go_wp2_with fail
        refine kR0.mono ?_
        rintro e w5 ⟨rfl, hb5⟩
        have B5 := bnext B3 hb5
        go_wp2
        go_ret
        exact ⟨by simp, B5⟩
      · replace kR1 := kR1 (vc - q)
        simp only [Option.map_some, Nat.zero_add] at kR1
        have hcap' : q < vc := by omega
        go_wp2_with fail
        refine kSB.mono ?_
        rintro e w4 ⟨rfl, rfl⟩
        go_wp2_with fail
        refine kR1.mono ?_
        rintro e w5 ⟨rfl, hb5⟩
        have B5 := bnext B3 hb5
        go_wp2
        go_ret
        exact ⟨by simp, B5⟩

end Go.Proofs.Ytcbgnodmamcmkaa
