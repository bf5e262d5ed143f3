/- What the document's Right answers. -/
import Derived.Test.YtkkdiciadkcmmaaRefRight2
import Derived.Deep.RegionHeld
namespace Go.Proofs.Ytkkdiciadkcmmaa
open Go.RowKit

section
variable {P : Program} {ops : Array Oper} {Q : Exit → Act → World → Prop} {md : Region.Mode} {S : World → Prop}
/-- An operation of a drawn region that yields v wherever S holds is taken first; its slot is written out. -/
theorem take_to (i d : Nat) {oi : Oper} {v : Value} {fuel : Nat} {listed : Array Bool} {a : Act} {w : World} (hi : ops[i]? = some oi) (hd : oi.dst = some d)
    (hs : Region.noSelect ops = true) (hf : Region.free md ops listed i = true) (hr : (Region.ready md ops listed).contains i = true)
    (hQ : ∀ c a w, Q (.panic c) (a.put oi.dst v) w → Q (.panic c) a w) (hS : S w) (hw : Region.wanted oi (yielded ops a.tmps) = true) (hy : ∀ w, S w → (execOp a.eval oi).run P w = .ok (.value v) w)
    (h : wpAnyH P md ops Q S fuel (listed.setIfInBounds i true) { a with tmps := a.tmps.setIfInBounds d v } w) : wpAnyH P md ops Q S (fuel + 1) listed a w := by
  refine wpAnyH_take hi hs hf hr hQ (Or.inl ⟨hw, hy⟩) hS ?_
  rw [hd]; exact h
/-- One that its guard passes over. -/
theorem take_over (i d : Nat) {oi : Oper} {fuel : Nat} {listed : Array Bool} {a : Act} {w : World} (hi : ops[i]? = some oi) (hd : oi.dst = some d)
    (hs : Region.noSelect ops = true) (hf : Region.free md ops listed i = true) (hr : (Region.ready md ops listed).contains i = true)
    (hQ : ∀ c a w, Q (.panic c) (a.put oi.dst undef) w → Q (.panic c) a w) (hS : S w) (hw : Region.wanted oi (yielded ops a.tmps) = false)
    (h : wpAnyH P md ops Q S fuel (listed.setIfInBounds i true) { a with tmps := a.tmps.setIfInBounds d undef } w) : wpAnyH P md ops Q S (fuel + 1) listed a w := by
  refine wpAnyH_take hi hs hf hr hQ (Or.inr ⟨hw, rfl⟩) hS ?_
  rw [hd]; exact h
end

theorem refright_yes (i : It) (w : World) (hi : ItAt w i) (hs : Short i) (h : Good i.fd) : Calls Try.prog 40 #[i.val] w fun e w' => e = .returned (.bool true) ∧ Below w.heap.size w w' := by
  refine (refright_any i w hi hs).mono ?_
  rintro e w' ⟨r, rfl, hr, hb⟩
  rw [hr.2 h]
  exact ⟨rfl, hb⟩

theorem refright_no (i : It) (w : World) (hi : ItAt w i) (hs : Short i) (h : ¬ Good i.fd) : Calls Try.prog 40 #[i.val] w fun e w' => e = .returned (.bool false) ∧ Below w.heap.size w w' := by
  refine (refright_any i w hi hs).mono ?_
  rintro e w' ⟨r, rfl, hr, hb⟩
  cases r with
  | true => exact absurd (hr.1 rfl) h
  | false => exact ⟨rfl, hb⟩

theorem six_one {w : World} {b o j : Nat} {it : It} (h : Six w b (o + j * 6) it) : w.cell? ⟨b, o + j * 6, none⟩ = some (.int .u8 (it.fd.tag.toNat : Int)) ∧ w.cell? ⟨b, o + j * 6 + 1, none⟩ = some (.int .u8 (it.fd.kind.toNat : Int)) ∧ w.cell? ⟨b, o + j * 6 + 2, none⟩ = some (.int .i64 it.fd.n) ∧ w.cell? ⟨b, o + j * 6 + 3, none⟩ = some (.string it.fd.text) ∧ w.cell? ⟨b, o + j * 6 + 4, none⟩ = some (.slice it.na it.fd.ns.length it.nc) ∧ w.cell? ⟨b, o + j * 6 + 5, none⟩ = some (.slice it.ta it.fd.texts.length it.tc) := ⟨h.c0, h.c1, h.c2, h.c3, h.c4, h.c5⟩

theorem six_zero {w : World} {b o : Nat} {it : It} (h : Six w b o it) : w.cell? ⟨b, o, none⟩ = some (.int .u8 (it.fd.tag.toNat : Int)) ∧ w.cell? ⟨b, o + 1, none⟩ = some (.int .u8 (it.fd.kind.toNat : Int)) ∧ w.cell? ⟨b, o + 2, none⟩ = some (.int .i64 it.fd.n) ∧ w.cell? ⟨b, o + 3, none⟩ = some (.string it.fd.text) ∧ w.cell? ⟨b, o + 4, none⟩ = some (.slice it.na it.fd.ns.length it.nc) ∧ w.cell? ⟨b, o + 5, none⟩ = some (.slice it.ta it.fd.texts.length it.tc) := ⟨h.c0, h.c1, h.c2, h.c3, h.c4, h.c5⟩

theorem six_pre {w : World} {b o j p : Nat} {it : It} {pt : UInt8} (h : Six w b (o + j * 6) it) (k : w.cell? ⟨b, o + p * 6, none⟩ = some (.int .u8 (pt.toNat : Int))) : w.cell? ⟨b, o + j * 6, none⟩ = some (.int .u8 (it.fd.tag.toNat : Int)) ∧ w.cell? ⟨b, o + j * 6 + 1, none⟩ = some (.int .u8 (it.fd.kind.toNat : Int)) ∧ w.cell? ⟨b, o + j * 6 + 2, none⟩ = some (.int .i64 it.fd.n) ∧ w.cell? ⟨b, o + j * 6 + 3, none⟩ = some (.string it.fd.text) ∧ w.cell? ⟨b, o + j * 6 + 4, none⟩ = some (.slice it.na it.fd.ns.length it.nc) ∧ w.cell? ⟨b, o + j * 6 + 5, none⟩ = some (.slice it.ta it.fd.texts.length it.tc) ∧ w.cell? ⟨b, o + p * 6, none⟩ = some (.int .u8 (pt.toNat : Int)) := ⟨h.c0, h.c1, h.c2, h.c3, h.c4, h.c5, k⟩

set_option maxRecDepth 100000 in
set_option maxHeartbeats 4000000 in
theorem refRight_any (a : Option Addr) (len cap : Nat) (its : List It) (w : World) (hl : its.length = len) (hat : FAt w a its) (hsh : ∀ i ∈ its, Short i) :
    Calls Try.prog 18 #[.slice a len cap] w fun e w' => BoolIs (Right (fds its)) w w' e := by
  have hri := right_iff its
  by_cases h64 : len ≤ 64
  · have hno' : ¬ (∀ q (hq : q < its.length), Good its[q].fd ∧ (0 < q → (its[q - 1]'(by omega)).fd.tag < its[q].fd.tag)) → ¬ Right (fds its) := fun h r => h (hri.1 r).2
    have hyes' : (∀ q (hq : q < its.length), Good its[q].fd ∧ (0 < q → (its[q - 1]'(by omega)).fd.tag < its[q].fd.tag)) → Right (fds its) := fun h => hri.2 ⟨by omega, h⟩
    replace hno' := hid hno'
    replace hyes' := hid hyes'
    replace hri := hid hri
    go_enter Try.func18, Try.ntmps18
    go_wp2
    go_loopw [3] (fun i wr => ∃ j : Nat, j ≤ len ∧ i = .int .i64 j ∧ Below w.heap.size w wr ∧ ∀ q (hq : q < its.length), q < j → Good its[q].fd ∧ (0 < q → (its[q - 1]'(by omega)).fd.tag < its[q].fd.tag)) (fun i _ => len - (intOf i).toNat)
    case atStart => exact ⟨0, Nat.zero_le _, rfl, Below.refl _ _, fun q _ hq => by omega⟩
    case round =>
      obtain ⟨j, hj, rfl, hb, hall⟩ := hrel
      by_cases hlt : j < len
      · have hatw := (hat.below hb).below (Below.refl _ _).drew
        obtain ⟨b, o, rfl, hc⟩ := hatw.form (by intro e; subst e; simp at hl; omega)
        have h6 := hc j (by omega)
        have hit := hatw.2 (its[j]'(by omega)) (List.getElem_mem _)
        have sh := hsh (its[j]'(by omega)) (List.getElem_mem _)
        obtain ⟨it, hit0⟩ : ∃ it, it = its[j]'(by omega) := ⟨_, rfl⟩
        rw [← hit0] at h6 hit sh
        have hbd := hb.drew
        by_cases hg : Good it.fd
        · have hcall := refright_yes it wr.drew hit sh hg
          unfold It.val at hcall
          by_cases hj0 : j = 0
          · have hd : decide (0 < j) = false := decide_eq_false (by omega)
            have hall' : ∀ q (hq : q < its.length), q < j + 1 → Good its[q].fd ∧ (0 < q → (its[q - 1]'(by omega)).fd.tag < its[q].fd.tag) := fun q hq hqj => by
              obtain rfl : q = j := by omega
              exact ⟨by rw [← hit0]; exact hg, fun h => by omega⟩
            replace hall' := hid hall'
            replace hall := hid hall
            replace hit0 := hid hit0
            replace hl := hid hl
            replace hj0 := hid hj0
            replace hg := hid hg
            clear hc hatw hsh hat
            obtain rfl := hj0.out
            have h6' : Six wr.drew b o it := by simpa using h6
            clear h6
            go_wp2_with fail
            refine wp_region_held_drew (S := fun w' : World => w'.cell? ⟨b, o, none⟩ = some (.int .u8 (it.fd.tag.toNat : Int)) ∧ w'.cell? ⟨b, o + 1, none⟩ = some (.int .u8 (it.fd.kind.toNat : Int)) ∧ w'.cell? ⟨b, o + 2, none⟩ = some (.int .i64 it.fd.n) ∧ w'.cell? ⟨b, o + 3, none⟩ = some (.string it.fd.text) ∧ w'.cell? ⟨b, o + 4, none⟩ = some (.slice it.na it.fd.ns.length it.nc) ∧ w'.cell? ⟨b, o + 5, none⟩ = some (.slice it.ta it.fd.texts.length it.tc)) (by kernel_rfl) (six_zero h6') (fun hHeld => ?_)
            refine take_to 0 13 (v := ?_) rfl rfl (by kernel_rfl) (by kernel_rfl) (by kernel_rfl) (fun _ _ _ h => h) hHeld (by rfl) ?_ ?_
            rotate_left
            · intro w hSw; (try dsimp only at hSw); go_simp; (try with_reducible rfl)
            simp only [List.setIfInBounds_toArray, List.set_cons_zero, List.set_cons_succ]
            refine take_to 1 14 (v := ?_) rfl rfl (by kernel_rfl) (by kernel_rfl) (by kernel_rfl) (fun _ _ _ h => h) hHeld (by rfl) ?_ ?_
            rotate_left
            · intro w hSw; (try dsimp only at hSw); go_simp; (try with_reducible rfl)
            simp only [List.setIfInBounds_toArray, List.set_cons_zero, List.set_cons_succ]
            refine take_to 2 15 (v := ?_) rfl rfl (by kernel_rfl) (by kernel_rfl) (by kernel_rfl) (fun _ _ _ h => h) hHeld (by rfl) ?_ ?_
            rotate_left
            · intro w hSw; (try dsimp only at hSw); go_simp; (try with_reducible rfl)
            simp only [List.setIfInBounds_toArray, List.set_cons_zero, List.set_cons_succ]
            refine take_to 3 16 (v := ?_) rfl rfl (by kernel_rfl) (by kernel_rfl) (by kernel_rfl) (fun _ _ _ h => h) hHeld (by rfl) ?_ ?_
            rotate_left
            · intro w hSw; (try dsimp only at hSw); go_simp; (try with_reducible rfl)
            simp only [List.setIfInBounds_toArray, List.set_cons_zero, List.set_cons_succ]
            refine wpAnyH_ready (rs := [4]) (by kernel_rfl) (by simp) ?_
            refine AllReadyH.cons rfl (fun K hK => ?_) AllReadyH.nil
            go_simp
            go_wp2_with fail
            refine hcall.mono ?_; rintro e w3 ⟨rfl, hb3⟩; have h7 := h6'.below hb3
            go_wp2
            refine hK.out _ _ (six_zero h7) (fun hHeld => ?_)
            clear hK K
            refine take_to 5 18 (v := ?_) rfl rfl (by kernel_rfl) (by kernel_rfl) (by kernel_rfl) (fun _ _ _ h => h) hHeld (by rfl) ?_ ?_
            rotate_left
            · intro w hSw; (try dsimp only at hSw); go_simp; (try with_reducible rfl)
            simp only [List.setIfInBounds_toArray, List.set_cons_zero, List.set_cons_succ]
            refine take_to 6 19 (v := ?_) rfl rfl (by kernel_rfl) (by kernel_rfl) (by kernel_rfl) (fun _ _ _ h => h) hHeld (by rfl) ?_ ?_
            rotate_left
            · intro w hSw; (try dsimp only at hSw); go_simp; (try with_reducible rfl)
            simp only [List.setIfInBounds_toArray, List.set_cons_zero, List.set_cons_succ]
            refine take_to 7 20 (v := ?_) rfl rfl (by kernel_rfl) (by kernel_rfl) (by kernel_rfl) (fun _ _ _ h => h) hHeld (by rfl) ?_ ?_
            rotate_left
            · intro w hSw; (try dsimp only at hSw); go_simp; (try with_reducible rfl)
            simp only [List.setIfInBounds_toArray, List.set_cons_zero, List.set_cons_succ]
            refine take_to 8 21 (v := ?_) rfl rfl (by kernel_rfl) (by kernel_rfl) (by kernel_rfl) (fun _ _ _ h => h) hHeld (by rfl) ?_ ?_
            rotate_left
            · intro w hSw; (try dsimp only at hSw); go_simp; (try with_reducible rfl)
            simp only [List.setIfInBounds_toArray, List.set_cons_zero, List.set_cons_succ]
            refine take_to 9 22 (v := ?_) rfl rfl (by kernel_rfl) (by kernel_rfl) (by kernel_rfl) (fun _ _ _ h => h) hHeld (by rfl) ?_ ?_
            rotate_left
            · intro w hSw; (try dsimp only at hSw); go_simp; (try with_reducible rfl)
            simp only [List.setIfInBounds_toArray, List.set_cons_zero, List.set_cons_succ]
            refine take_over 10 23 rfl rfl (by kernel_rfl) (by kernel_rfl) (by kernel_rfl) (fun _ _ _ h => h) hHeld (by rfl) ?_
            simp only [List.setIfInBounds_toArray, List.set_cons_zero, List.set_cons_succ]
            refine take_over 11 24 rfl rfl (by kernel_rfl) (by kernel_rfl) (by kernel_rfl) (fun _ _ _ h => h) hHeld (by rfl) ?_
            simp only [List.setIfInBounds_toArray, List.set_cons_zero, List.set_cons_succ]
            refine take_over 12 25 rfl rfl (by kernel_rfl) (by kernel_rfl) (by kernel_rfl) (fun _ _ _ h => h) hHeld (by rfl) ?_
            simp only [List.setIfInBounds_toArray, List.set_cons_zero, List.set_cons_succ]
            refine take_over 13 26 rfl rfl (by kernel_rfl) (by kernel_rfl) (by kernel_rfl) (fun _ _ _ h => h) hHeld (by rfl) ?_
            simp only [List.setIfInBounds_toArray, List.set_cons_zero, List.set_cons_succ]
            refine take_over 14 27 rfl rfl (by kernel_rfl) (by kernel_rfl) (by kernel_rfl) (fun _ _ _ h => h) hHeld (by rfl) ?_
            simp only [List.setIfInBounds_toArray, List.set_cons_zero, List.set_cons_succ]
            refine take_over 15 28 rfl rfl (by kernel_rfl) (by kernel_rfl) (by kernel_rfl) (fun _ _ _ h => h) hHeld (by rfl) ?_
            simp only [List.setIfInBounds_toArray, List.set_cons_zero, List.set_cons_succ]
            refine take_over 16 29 rfl rfl (by kernel_rfl) (by kernel_rfl) (by kernel_rfl) (fun _ _ _ h => h) hHeld (by rfl) ?_
            simp only [List.setIfInBounds_toArray, List.set_cons_zero, List.set_cons_succ]
            refine take_over 17 30 rfl rfl (by kernel_rfl) (by kernel_rfl) (by kernel_rfl) (fun _ _ _ h => h) hHeld (by rfl) ?_
            simp only [List.setIfInBounds_toArray, List.set_cons_zero, List.set_cons_succ]
            refine take_over 18 31 rfl rfl (by kernel_rfl) (by kernel_rfl) (by kernel_rfl) (fun _ _ _ h => h) hHeld (by rfl) ?_
            simp only [List.setIfInBounds_toArray, List.set_cons_zero, List.set_cons_succ]
            refine take_over 19 32 rfl rfl (by kernel_rfl) (by kernel_rfl) (by kernel_rfl) (fun _ _ _ h => h) hHeld (by rfl) ?_
            simp only [List.setIfInBounds_toArray, List.set_cons_zero, List.set_cons_succ]
            refine take_over 20 33 rfl rfl (by kernel_rfl) (by kernel_rfl) (by kernel_rfl) (fun _ _ _ h => h) hHeld (by rfl) ?_
            simp only [List.setIfInBounds_toArray, List.set_cons_zero, List.set_cons_succ]
            refine take_over 21 34 rfl rfl (by kernel_rfl) (by kernel_rfl) (by kernel_rfl) (fun _ _ _ h => h) hHeld (by rfl) ?_
            simp only [List.setIfInBounds_toArray, List.set_cons_zero, List.set_cons_succ]
            refine take_to 22 35 (v := ?_) rfl rfl (by kernel_rfl) (by kernel_rfl) (by kernel_rfl) (fun _ _ _ h => h) hHeld (by rfl) ?_ ?_
            rotate_left
            · intro w hSw; (try dsimp only at hSw); go_simp; (try with_reducible rfl)
            simp only [List.setIfInBounds_toArray, List.set_cons_zero, List.set_cons_succ]
            refine take_to 23 36 (v := ?_) rfl rfl (by kernel_rfl) (by kernel_rfl) (by kernel_rfl) (fun _ _ _ h => h) hHeld (by rfl) ?_ ?_
            rotate_left
            · intro w hSw; (try dsimp only at hSw); go_simp; (try with_reducible rfl)
            simp only [List.setIfInBounds_toArray, List.set_cons_zero, List.set_cons_succ]
            refine wpAnyH_done (by kernel_rfl) ?_ _
            all_goals
              replace hb3 := bnext hbd hb3
              go_wp2
              go_roundw
              case rel => exact ⟨1, by omega, rfl, hb3, hall'.out⟩
              case measure => simp [intOf]; omega
          · obtain ⟨p, rfl⟩ : ∃ p, j = p + 1 := ⟨j - 1, by omega⟩
            have hp6 := hc p (by omega)
            obtain ⟨pt, hpt⟩ : ∃ t, t = (its[p]'(by omega)).fd.tag := ⟨_, rfl⟩
            have p0 := hp6.c0
            rw [← hpt] at p0
            have hpl : p < len := by omega
            have hw : IntKind.i64.wrap (p : Int) = (p : Int) := by rw [IntKind.wrap_i64]; omega
            have hblt : b < wr.drew.heap.size := World.block_lt_of_cell? _ _ p0
            clear hj0 hp6
            by_cases htag : pt < it.fd.tag
            · have hd2 : decide ((it.fd.tag.toNat : Int) ≤ (pt.toNat : Int)) = false := decide_eq_false (by have := UInt8.lt_iff_toNat_lt.1 htag; omega)
              have hd3 : decide (it.fd.tag.toNat ≤ pt.toNat) = false := decide_eq_false (by have := UInt8.lt_iff_toNat_lt.1 htag; omega)
              have hall' : ∀ q (hq : q < its.length), q < p + 1 + 1 → Good its[q].fd ∧ (0 < q → (its[q - 1]'(by omega)).fd.tag < its[q].fd.tag) := fun q hq hqj => by
                rcases Nat.lt_or_ge q (p + 1) with h | h
                · exact hall q hq h
                · obtain rfl : q = p + 1 := by omega
                  rw [hit0] at hg htag
                  refine ⟨hg, fun _ => ?_⟩
                  rw [hpt] at htag
                  simpa using htag
              replace hall' := hid hall'
              replace hall := hid hall
              replace hit0 := hid hit0
              replace hl := hid hl
              replace hg := hid hg
              replace hpt := hid hpt
              clear hc hatw hsh hat
              go_wp2_with fail
              go_region_held (fun w' : World => w'.cell? ⟨b, o + (p + 1) * 6, none⟩ = some (.int .u8 (it.fd.tag.toNat : Int)) ∧ w'.cell? ⟨b, o + (p + 1) * 6 + 1, none⟩ = some (.int .u8 (it.fd.kind.toNat : Int)) ∧ w'.cell? ⟨b, o + (p + 1) * 6 + 2, none⟩ = some (.int .i64 it.fd.n) ∧ w'.cell? ⟨b, o + (p + 1) * 6 + 3, none⟩ = some (.string it.fd.text) ∧ w'.cell? ⟨b, o + (p + 1) * 6 + 4, none⟩ = some (.slice it.na it.fd.ns.length it.nc) ∧ w'.cell? ⟨b, o + (p + 1) * 6 + 5, none⟩ = some (.slice it.ta it.fd.texts.length it.tc) ∧ w'.cell? ⟨b, o + p * 6, none⟩ = some (.int .u8 (pt.toNat : Int))) (first | exact six_pre h7 p7 | exact six_pre h6 p0) (first
                | (go_at_call 40; refine hcall.mono ?_; rintro e w3 ⟨rfl, hb3⟩; have h7 := h6.below hb3; have p7 : w3.cell? ⟨b, o + p * 6, none⟩ = some (.int .u8 (pt.toNat : Int)) := (hb3.cell (p := ⟨b, o + p * 6, none⟩) hblt).trans p0))
              all_goals
                replace hb3 := bnext hbd hb3
                go_wp2
                go_roundw
                case rel => exact ⟨p + 1 + 1, by omega, by go_num, hb3, hall'.out⟩
                case measure => simp [intOf]; omega
            · have hle : it.fd.tag.toNat ≤ pt.toNat := Nat.le_of_not_lt fun h => htag (UInt8.lt_iff_toNat_lt.2 h)
              have hd2 : decide ((it.fd.tag.toNat : Int) ≤ (pt.toNat : Int)) = true := decide_eq_true (by omega)
              have hd3 : decide (it.fd.tag.toNat ≤ pt.toNat) = true := decide_eq_true hle
              have hno : ¬ Right (fds its) := hno'.out fun e => htag (by
                have := (e (p + 1) (by omega)).2 (by omega)
                rw [hit0, hpt]
                simpa using this)
              replace hno := hid hno
              replace hall := hid hall
              replace hit0 := hid hit0
              replace hl := hid hl
              replace hg := hid hg
              replace hpt := hid hpt
              replace htag := hid htag
              clear hc hatw hsh hat
              go_wp2_with fail
              go_region_held (fun w' : World => w'.cell? ⟨b, o + (p + 1) * 6, none⟩ = some (.int .u8 (it.fd.tag.toNat : Int)) ∧ w'.cell? ⟨b, o + (p + 1) * 6 + 1, none⟩ = some (.int .u8 (it.fd.kind.toNat : Int)) ∧ w'.cell? ⟨b, o + (p + 1) * 6 + 2, none⟩ = some (.int .i64 it.fd.n) ∧ w'.cell? ⟨b, o + (p + 1) * 6 + 3, none⟩ = some (.string it.fd.text) ∧ w'.cell? ⟨b, o + (p + 1) * 6 + 4, none⟩ = some (.slice it.na it.fd.ns.length it.nc) ∧ w'.cell? ⟨b, o + (p + 1) * 6 + 5, none⟩ = some (.slice it.ta it.fd.texts.length it.tc) ∧ w'.cell? ⟨b, o + p * 6, none⟩ = some (.int .u8 (pt.toNat : Int))) (first | exact six_pre h7 p7 | exact six_pre h6 p0) (first
                | (go_at_call 40; refine hcall.mono ?_; rintro e w3 ⟨rfl, hb3⟩; have h7 := h6.below hb3; have p7 : w3.cell? ⟨b, o + p * 6, none⟩ = some (.int .u8 (pt.toNat : Int)) := (hb3.cell (p := ⟨b, o + p * 6, none⟩) hblt).trans p0))
              all_goals
                replace hb3 := bnext hbd hb3
                go_wp2
                go_ret
                exact BoolIs.of false (ff_iff hno.out) hb3
        · have hcall := refright_no it wr.drew hit sh hg
          unfold It.val at hcall
          have hno : ¬ Right (fds its) := hno'.out fun e => hg (by rw [hit0]; exact (e j (by omega)).1)
          replace hno := hid hno
          replace hall := hid hall
          replace hit0 := hid hit0
          replace hl := hid hl
          replace hg := hid hg
          clear hc hatw hsh hat
          go_wp2_with fail
          refine wp_region_held_drew (S := fun w' : World => w'.cell? ⟨b, o + j * 6, none⟩ = some (.int .u8 (it.fd.tag.toNat : Int)) ∧ w'.cell? ⟨b, o + j * 6 + 1, none⟩ = some (.int .u8 (it.fd.kind.toNat : Int)) ∧ w'.cell? ⟨b, o + j * 6 + 2, none⟩ = some (.int .i64 it.fd.n) ∧ w'.cell? ⟨b, o + j * 6 + 3, none⟩ = some (.string it.fd.text) ∧ w'.cell? ⟨b, o + j * 6 + 4, none⟩ = some (.slice it.na it.fd.ns.length it.nc) ∧ w'.cell? ⟨b, o + j * 6 + 5, none⟩ = some (.slice it.ta it.fd.texts.length it.tc)) (by kernel_rfl) (six_one h6) (fun hHeld => ?_)
          refine take_to 0 13 (v := ?_) rfl rfl (by kernel_rfl) (by kernel_rfl) (by kernel_rfl) (fun _ _ _ h => h) hHeld (by rfl) ?_ ?_
          rotate_left
          · intro w hSw; (try dsimp only at hSw); go_simp; (try with_reducible rfl)
          simp only [List.setIfInBounds_toArray, List.set_cons_zero, List.set_cons_succ]
          refine take_to 1 14 (v := ?_) rfl rfl (by kernel_rfl) (by kernel_rfl) (by kernel_rfl) (fun _ _ _ h => h) hHeld (by rfl) ?_ ?_
          rotate_left
          · intro w hSw; (try dsimp only at hSw); go_simp; (try with_reducible rfl)
          simp only [List.setIfInBounds_toArray, List.set_cons_zero, List.set_cons_succ]
          refine take_to 2 15 (v := ?_) rfl rfl (by kernel_rfl) (by kernel_rfl) (by kernel_rfl) (fun _ _ _ h => h) hHeld (by rfl) ?_ ?_
          rotate_left
          · intro w hSw; (try dsimp only at hSw); go_simp; (try with_reducible rfl)
          simp only [List.setIfInBounds_toArray, List.set_cons_zero, List.set_cons_succ]
          refine take_to 3 16 (v := ?_) rfl rfl (by kernel_rfl) (by kernel_rfl) (by kernel_rfl) (fun _ _ _ h => h) hHeld (by rfl) ?_ ?_
          rotate_left
          · intro w hSw; (try dsimp only at hSw); go_simp; (try with_reducible rfl)
          simp only [List.setIfInBounds_toArray, List.set_cons_zero, List.set_cons_succ]
          refine wpAnyH_ready (rs := [4]) (by kernel_rfl) (by simp) ?_
          refine AllReadyH.cons rfl (fun K hK => ?_) AllReadyH.nil
          go_simp
          go_wp2_with fail
          refine hcall.mono ?_; rintro e w3 ⟨rfl, hb3⟩; have h7 := h6.below hb3
          go_wp2
          refine hK.out _ _ (six_one h7) (fun hHeld => ?_)
          clear hK K
          refine take_to 5 18 (v := ?_) rfl rfl (by kernel_rfl) (by kernel_rfl) (by kernel_rfl) (fun _ _ _ h => h) hHeld (by rfl) ?_ ?_
          rotate_left
          · intro w hSw; (try dsimp only at hSw); go_simp; (try with_reducible rfl)
          simp only [List.setIfInBounds_toArray, List.set_cons_zero, List.set_cons_succ]
          refine take_to 6 19 (v := ?_) rfl rfl (by kernel_rfl) (by kernel_rfl) (by kernel_rfl) (fun _ _ _ h => h) hHeld (by rfl) ?_ ?_
          rotate_left
          · intro w hSw; (try dsimp only at hSw); go_simp; (try with_reducible rfl)
          simp only [List.setIfInBounds_toArray, List.set_cons_zero, List.set_cons_succ]
          refine take_over 7 20 rfl rfl (by kernel_rfl) (by kernel_rfl) (by kernel_rfl) (fun _ _ _ h => h) hHeld (by rfl) ?_
          simp only [List.setIfInBounds_toArray, List.set_cons_zero, List.set_cons_succ]
          refine take_over 8 21 rfl rfl (by kernel_rfl) (by kernel_rfl) (by kernel_rfl) (fun _ _ _ h => h) hHeld (by rfl) ?_
          simp only [List.setIfInBounds_toArray, List.set_cons_zero, List.set_cons_succ]
          refine take_over 9 22 rfl rfl (by kernel_rfl) (by kernel_rfl) (by kernel_rfl) (fun _ _ _ h => h) hHeld (by rfl) ?_
          simp only [List.setIfInBounds_toArray, List.set_cons_zero, List.set_cons_succ]
          refine take_over 10 23 rfl rfl (by kernel_rfl) (by kernel_rfl) (by kernel_rfl) (fun _ _ _ h => h) hHeld (by rfl) ?_
          simp only [List.setIfInBounds_toArray, List.set_cons_zero, List.set_cons_succ]
          refine take_over 11 24 rfl rfl (by kernel_rfl) (by kernel_rfl) (by kernel_rfl) (fun _ _ _ h => h) hHeld (by rfl) ?_
          simp only [List.setIfInBounds_toArray, List.set_cons_zero, List.set_cons_succ]
          refine take_over 12 25 rfl rfl (by kernel_rfl) (by kernel_rfl) (by kernel_rfl) (fun _ _ _ h => h) hHeld (by rfl) ?_
          simp only [List.setIfInBounds_toArray, List.set_cons_zero, List.set_cons_succ]
          refine take_over 13 26 rfl rfl (by kernel_rfl) (by kernel_rfl) (by kernel_rfl) (fun _ _ _ h => h) hHeld (by rfl) ?_
          simp only [List.setIfInBounds_toArray, List.set_cons_zero, List.set_cons_succ]
          refine take_over 14 27 rfl rfl (by kernel_rfl) (by kernel_rfl) (by kernel_rfl) (fun _ _ _ h => h) hHeld (by rfl) ?_
          simp only [List.setIfInBounds_toArray, List.set_cons_zero, List.set_cons_succ]
          refine take_over 15 28 rfl rfl (by kernel_rfl) (by kernel_rfl) (by kernel_rfl) (fun _ _ _ h => h) hHeld (by rfl) ?_
          simp only [List.setIfInBounds_toArray, List.set_cons_zero, List.set_cons_succ]
          refine take_over 16 29 rfl rfl (by kernel_rfl) (by kernel_rfl) (by kernel_rfl) (fun _ _ _ h => h) hHeld (by rfl) ?_
          simp only [List.setIfInBounds_toArray, List.set_cons_zero, List.set_cons_succ]
          refine take_over 17 30 rfl rfl (by kernel_rfl) (by kernel_rfl) (by kernel_rfl) (fun _ _ _ h => h) hHeld (by rfl) ?_
          simp only [List.setIfInBounds_toArray, List.set_cons_zero, List.set_cons_succ]
          refine take_over 18 31 rfl rfl (by kernel_rfl) (by kernel_rfl) (by kernel_rfl) (fun _ _ _ h => h) hHeld (by rfl) ?_
          simp only [List.setIfInBounds_toArray, List.set_cons_zero, List.set_cons_succ]
          refine take_over 19 32 rfl rfl (by kernel_rfl) (by kernel_rfl) (by kernel_rfl) (fun _ _ _ h => h) hHeld (by rfl) ?_
          simp only [List.setIfInBounds_toArray, List.set_cons_zero, List.set_cons_succ]
          refine take_over 20 33 rfl rfl (by kernel_rfl) (by kernel_rfl) (by kernel_rfl) (fun _ _ _ h => h) hHeld (by rfl) ?_
          simp only [List.setIfInBounds_toArray, List.set_cons_zero, List.set_cons_succ]
          refine take_over 21 34 rfl rfl (by kernel_rfl) (by kernel_rfl) (by kernel_rfl) (fun _ _ _ h => h) hHeld (by rfl) ?_
          simp only [List.setIfInBounds_toArray, List.set_cons_zero, List.set_cons_succ]
          refine take_over 22 35 rfl rfl (by kernel_rfl) (by kernel_rfl) (by kernel_rfl) (fun _ _ _ h => h) hHeld (by rfl) ?_
          simp only [List.setIfInBounds_toArray, List.set_cons_zero, List.set_cons_succ]
          refine take_to 23 36 (v := ?_) rfl rfl (by kernel_rfl) (by kernel_rfl) (by kernel_rfl) (fun _ _ _ h => h) hHeld (by rfl) ?_ ?_
          rotate_left
          · intro w hSw; (try dsimp only at hSw); go_simp; (try with_reducible rfl)
          simp only [List.setIfInBounds_toArray, List.set_cons_zero, List.set_cons_succ]
          refine wpAnyH_done (by kernel_rfl) ?_ _
          all_goals
            replace hb3 := bnext hbd hb3
            go_wp2
            go_ret
            exact BoolIs.of false (ff_iff hno.out) hb3
      · obtain rfl : j = len := by omega
        have hyes : Right (fds its) := hyes'.out fun q hq => hall q hq (by omega)
        replace hall := hid hall
        replace hyes := hid hyes
        go_wp2
        go_ret
        exact BoolIs.of true (tt_iff hyes.out) hb
  · have h65 : 64 < len := by omega
    have hno : ¬ Right (fds its) := fun r => absurd (hri.1 r).1 (by omega)
    replace hno := hid hno
    replace hri := hid hri
    go_enter Try.func18, Try.ntmps18
    go_wp2
    go_ret
    exact BoolIs.of false (ff_iff hno.out) (Below.refl _ _)

end Go.Proofs.Ytkkdiciadkcmmaa
