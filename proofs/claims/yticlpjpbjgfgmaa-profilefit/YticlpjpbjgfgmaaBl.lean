/- Blocks: copied, compared. -/
import Derived.Test.YticlpjpbjgfgmaaAsk
namespace Go.Proofs.Yticlpjpbjgfgmaa
open Go.RowKit

theorem info51 : (Try.prog.info? 51).map (fun i => (i.zero, i.size, i.bytes)) = some (some (.agg #[.int .u32 0, .int .i64 0, .int .i64 0]), 3, 24) := by kernel_rfl
def BOwn (w : World) (base : Nat) (v : Value) (B : List BlkP) : Prop := w.ownsRow base 51 3 v B.length (B.flatMap bc)
theorem BOwn.below {w w' : World} {base : Nat} {v : Value} {B : List BlkP} (h : BOwn w base v B) (hb : Below w.heap.size w w') : BOwn w' base v B := owns_below h hb
theorem BOwn.nil (w : World) (base : Nat) : BOwn w base (.slice none 0 0) [] := World.ownsRow_nil _ _ _ _
theorem three_one (x y z : Value) (hx : x.oneCell' = true) (hy : y.oneCell' = true) (hz : z.oneCell' = true) : ∀ u ∈ [x, y, z], u.oneCell' = true := by
  intro u hu
  simp at hu
  rcases hu with rfl | rfl | rfl <;> assumption
theorem bc_snoc (B : List BlkP) (x : Nat) (p q : Int) : (B ++ [(⟨x, p, q⟩ : BlkP)]).flatMap bc = B.flatMap bc ++ [.int .u32 (x : Int), .int .i64 p, .int .i64 q] := by simp [bc]

set_option maxRecDepth 100000 in
set_option maxHeartbeats 800000 in
theorem copyb_any (a : Option Addr) (n c : Nat) (B : List BlkP) (w : World) (hn : B.length = n) (hl : n * 24 ≤ 140737488355328) (hat : BAt w a B) :
    Calls Try.prog 21 #[.slice a n c] w fun e w' => ∃ ad k, e = .returned (.slice ad n k) ∧ BOwn w' w.heap.size (.slice ad n k) B ∧ Below w.heap.size w w' := by
  obtain ⟨i0, hi0, hz0, hz1, hz2⟩ := info_parts info51
  replace hn := hid hn
  replace hat := hid hat
  go_enter Try.func21, Try.ntmps21
  go_wp2_with fail
  go_loopw [3, 4] (fun v i wr => ∃ j : Nat, j ≤ n ∧ i = .int .i64 (j : Int) ∧ Hid (BOwn wr w.heap.size v (B.take j)) ∧ Below w.heap.size w wr) (fun _ i _ => n - (intOf i).toNat)
  case atStart => exact ⟨0, Nat.zero_le _, rfl, hid (BOwn.nil _ _), Below.refl _ _⟩
  case round =>
    obtain ⟨j, hj, rfl, hv, hb⟩ := hrel
    by_cases hlt : j < n
    · have hjL : j < B.length := by rw [hn.out]; exact hlt
      obtain ⟨b, o, e⟩ := hat.out.place (by omega)
      subst e
      obtain ⟨x0, x1, x2⟩ := (hat.out.below hb).one hjL
      have hts := hid (show B.take (j + 1) = B.take j ++ [⟨B[j].nodes, B[j].f, B[j].t⟩] by rw [List.take_add_one, List.getElem?_eq_getElem hjL]; rfl)
      have htl := hid (show (B.take j).length = j by rw [List.length_take]; omega)
      generalize B[j].nodes = X0 at *
      generalize B[j].f = X1 at *
      generalize B[j].t = X2 at *
      generalize B.take j = T at *
      go_wp2_with (at_builtin; refine Hid.out ?_)
      have bl := below_lit wr (.cells #[.int .u32 (X0 : Int), .int .i64 X1, .int .i64 X2] 51)
      have hv2 := hv.out.below bl
      unfold BOwn at hv2
      rw [htl.out] at hv2
      have B1 := bnext hb bl
      refine wpList_cat _ rfl (.tmp 11) (.tmp 16) 42 rfl w.heap.size 51 i0 _ 3 24 Try.underlying42 hi0 hz0 hz1 hz2 rfl (by omega) _ _ _ rfl hv2 (some ⟨wr.heap.size, 0, none⟩) 1 _ [.int .u32 (X0 : Int), .int .i64 X1, .int .i64 X2] rfl rfl (cat_lit _ _ _ _ rfl) (three_one _ _ _ rfl rfl rfl) (by unfold maxLen; omega) (by omega) B1.size ?_
      intro v3 w3 hr3 hg3 hv3
      have hv4 := hid (show BOwn w3 w.heap.size v3 (B.take (j + 1)) by
        rw [hts.out]
        unfold BOwn
        rw [List.length_append, htl.out, bc_snoc]
        exact hr3)
      have B3 := B1.grown hg3 B1.size (fun k hk => (hv2.lt k hk).1)
      go_wp2_with fail
      go_roundw
      case rel => exact ⟨j + 1, by omega, by go_num, hv4, B3⟩
      case measure => simp [intOf]; omega
    · have hje : j = n := by omega
      subst hje
      have ht : B.take j = B := by rw [← hn.out, List.take_length]
      rw [ht] at hv
      obtain ⟨ad, k, e, _⟩ := owns_form hv.out
      rw [hn.out] at e
      subst e
      go_wp2
      go_ret
      exact ⟨ad, k, rfl, hv.out, hb⟩

set_option maxRecDepth 100000 in
set_option maxHeartbeats 800000 in
theorem sameb_any (a b : Option Addr) (n c d : Nat) (B : List BlkP) (w : World) (hn : B.length = n) (hl : n ≤ 4611686018427387904) (ha : BAt w a B) (hb : BAt w b B) :
    Calls Try.prog 24 #[.slice a n c, .slice b n d] w fun e w' => e = .returned (.bool true) ∧ Below w.heap.size w w' := by
  replace hn := hid hn
  replace ha := hid ha
  replace hb := hid hb
  go_enter Try.func24, Try.ntmps24
  go_wp2_with fail
  go_loopw [5] (fun i wr => ∃ j : Nat, j ≤ n ∧ i = .int .i64 (j : Int) ∧ Below w.heap.size w wr) (fun i _ => n - (intOf i).toNat)
  case atStart => exact ⟨0, Nat.zero_le _, rfl, Below.refl _ _⟩
  case round =>
    obtain ⟨j, hj, rfl, hbw⟩ := hrel
    by_cases hlt : j < n
    · have hjL : j < B.length := by rw [hn.out]; exact hlt
      obtain ⟨b1, o1, e⟩ := ha.out.place (by omega)
      subst e
      obtain ⟨b2, o2, e⟩ := hb.out.place (by omega)
      subst e
      obtain ⟨x0, x1, x2⟩ := (ha.out.below hbw).one hjL
      obtain ⟨y0, y1, y2⟩ := (hb.out.below hbw).one hjL
      generalize B[j].nodes = X0 at *
      generalize B[j].f = X1 at *
      generalize B[j].t = X2 at *
      go_wp2_with fail
      go_quiet (fail)
      have hb5 := below_drewN hbw nq
      generalize wr.drewN nq = wq at *
      go_wp2_with fail
      go_roundw
      case rel => exact ⟨j + 1, by omega, by go_num, hb5⟩
      case measure => simp [intOf]; omega
    · have hje : j = n := by omega
      subst hje
      go_wp2
      go_ret
      exact ⟨rfl, hbw⟩

end Go.Proofs.Yticlpjpbjgfgmaa
