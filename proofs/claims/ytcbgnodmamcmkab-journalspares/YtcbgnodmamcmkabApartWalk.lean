/- ApartBytes' walk. -/
import Derived.Test.YtcbgnodmamcmkabApartB
namespace Go.Proofs.Ytcbgnodmamcmkab
open Go.RowKit

theorem info26 : (Try.prog.info? 22).map (fun i => (i.zero, i.size, i.bytes)) = some (some (.slice none 0 0), 1, 24) := by kernel_rfl

theorem made26 (m : Nat) : (madeCells (Value.cells (.slice none 0 0)) (m * 1)).toList = (List.range m).map (fun _ => Value.slice none 0 0) := by
  simp only [madeCells, Value.cells, Array.toList_map, Array.toList_range, Nat.mul_one]
  apply List.ext_getElem
  · simp
  · intro i h1 h2
    simp [Nat.mod_one]

set_option maxRecDepth 100000 in
set_option maxHeartbeats 4000000 in
theorem apart_any (gl cl m base : Nat) (A : Nat → Option Addr) (n c : Nat → Nat) (S : Nat → Value) (L0 : Nat → List UInt8) (w : World) (hSj : ∀ j, S j = .slice (A j) (n j) (c j)) (hm : m ≤ 100) (hn : ∀ j, j < m → n j ≤ 1000000) (hbase : base ≤ w.heap.size)
    (hcell : ∀ k, k < m → w.cell? ⟨gl, k, none⟩ = some (S k)) (hgl : gl < w.heap.size)
    (hown : ∀ j, j < m → Own w base (S j) (L0 j)) (hlen : ∀ j, j < m → (L0 j).length = n j)
    (hd : ∀ i j, i < m → j < m → i ≠ j → ∀ b, (S i).ownBlock = some b → (S j).ownBlock ≠ some b) (hoff : ∀ j, j < m → (S j).ownBlock ≠ some gl) :
    Calls Try.prog 12 #[.slice (some ⟨gl, 0, none⟩) m cl] w fun e w' => e = .returned (.bool true) ∧ Kp (fun b => ∃ j, j < m ∧ (S j).ownBlock = some b) w w' := by
  obtain ⟨i0, hi, hz0, hz1, hz2⟩ := info_parts info26
  go_enter Try.func12, Try.ntmps12
  go_wp2_with (at_make; refine wpList_make_full _ rfl (.tmp 12) (.tmp 12) 42 rfl w.heap.size 22 i0 (.slice none 0 0) 1 Try.underlying42 hi hz0 hz1 .i64 .i64 _ _ m rfl rfl (by omega) (by omega) (by rw [hz2]; omega) (by unfold maxLen; omega) (Nat.le_refl _) ?_; intro w1 hgs hgr)
  have hb1 : Below w.heap.size w w1 := (Below.refl _ _).grown hgr (Nat.le_refl _) (fun k hk => by cases hk)
  rw [made26] at hgs
  replace hgs := owns_low hgs hbase
  obtain ⟨gg, hgg⟩ : ∃ gg, gg = w.heap.size := ⟨_, rfl⟩
  have hgg' : gg < w1.heap.size := by rw [hgg]; exact (World.ownsRow.lt hgs _ rfl).2
  rw [← hgg] at hgs
  rw [← hgg]
  replace hgg := hid hgg
  have hSl : ∀ j, j < m → ∀ b, (S j).ownBlock = some b → base ≤ b ∧ b < w.heap.size := fun j hj b hb => (hown j hj).lt b hb
  have M0 : Marked w1 w1 base m 0 S n L0 := ⟨fun j hj => (hown j hj).below hb1, hlen, fun j hj => by omega, Kp.refl _ _⟩
  have hT : ¬ ∃ j, j < m ∧ (S j).ownBlock = some gl := fun ⟨j, hj, e⟩ => hoff j hj e
  have hTg : ¬ ∃ j, j < m ∧ (S j).ownBlock = some gg := fun ⟨j, hj, e⟩ => by have := (hSl j hj gg e).2; rw [← hgg.out] at this; omega
  have hcell1 : ∀ k, k < m → w1.cell? ⟨gl, k, none⟩ = some (S k) := fun k hk => by rw [hb1.cell (p := ⟨gl, k, none⟩) hgl]; exact hcell k hk
  replace hcell1 := hid hcell1
  replace hSj := hid hSj
  replace hlen := hid hlen
  replace hgs := hid hgs
  have hcell0 := hid hcell
  clear hgr hcell
  go_wp2_with fail
  go_loopw [4] (fun kv wr => ∃ (k : Nat) (L : Nat → List UInt8), k ≤ m ∧ kv = .int .i64 k ∧ Marked w1 wr base m k S n L) (fun kv _ => m - (intOf kv).toNat)
  case atStart => exact ⟨0, L0, Nat.zero_le _, rfl, M0⟩
  case round =>
    obtain ⟨k, L, hk, rfl, hM⟩ := hrel
    clear M0
    by_cases hlt : k < m
    · have hnk := hn k hlt
      go_wp2_with fail
      go_loopw [5] (fun iv wi => ∃ (i : Nat) (L : Nat → List UInt8), i ≤ n k ∧ iv = .int .i64 i ∧ Marked w1 wi base m k S n L ∧ (L k).take i = mks k i) (fun iv _ => n k - (intOf iv).toNat)
      case atStart => exact ⟨0, L, Nat.zero_le _, rfl, hM, rfl⟩
      case round =>
        clear hM
        obtain ⟨i, L, hi, rfl, hM, htk⟩ := hrel
        replace htk := hid htk
        have hck := kp_cell hM.kp (hcell1.out k hlt) hT
        by_cases hlt2 : i < n k
        · have hlk := hM.len k hlt
          obtain ⟨g, cc, hg1, _, _⟩ := (hM.own k hlt).form_pos (fun e => by rw [e] at hlk; simp at hlk; omega)
          rw [hlk] at hg1
          have hok := hM.own k hlt
          rw [hg1] at hck hok
          have hc2 := hok.cellAt hlk i hlt2
          have hf2 := hok.free hlk i
          have hset := hM.set hlt hd g cc hg1 i (mkB k i)
          have htk2 : ((updL L k ((L k).set i (mkB k i))) k).take (i + 1) = mks k (i + 1) := by
            rw [updL_same, set_take _ _ _ (by omega), htk.out, mks_snoc]
          replace hset := hid hset
          replace htk2 := hid htk2
          replace hg1 := hid hg1
          replace hlk := hid hlk
          clear hok
          go_wp2_with fail
          go_region_with (go_at_call 24; refine (mark_any k i _ (by omega) (by omega)).mono ?_; rintro e w' ⟨rfl, rfl⟩)
          all_goals
            go_wp2
            go_roundw
            case rel => exact ⟨i + 1, _, by omega, by go_num, hset.out.drew, htk2.out⟩
            case measure => simp [intOf]; omega
        · obtain rfl : i = n k := by omega
          have hM2 := hM.next hlt htk.out
          rw [hSj.out k] at hck
          go_wp2
          go_roundw
          case rel => exact ⟨k + 1, L, by omega, by go_num, hM2⟩
          case measure => simp [intOf]; omega
    · obtain rfl : k = m := by omega
      have hz1 := hM.kp.size
      have hz0 := hb1.size
      obtain ⟨H, hH⟩ : ∃ H, H = wr.heap.size := ⟨_, rfl⟩
      have hlow : ∀ j, j < k → ∀ b, (S j).ownBlock = some b → b < H ∧ b ≠ gg := fun j hj b hb => by
        have := (hSl j hj b hb).2
        exact ⟨by omega, fun e => hTg ⟨j, hj, e ▸ hb⟩⟩
      have hA0 : ∀ j, j < k → ∀ ad, A j = some ad → ad = ⟨ad.block, 0, none⟩ := fun j hj ad e => by
        rcases (hown j hj).2 with ⟨h1, _⟩ | ⟨g, cp, cu, h1, _⟩
        · rw [hSj.out, e] at h1; cases h1
        · rw [hSj.out, e] at h1; simp only [Value.slice.injEq, Option.some.injEq] at h1; rw [h1.1]
      have G0 : Grown w wr base k 0 gg H S A n (fun _ => .slice none 0 0) := ⟨fun j hj _ => by rw [← hM.done j hj]; exact hM.own j hj, fun j hj => by omega, fun j hj => by omega, fun j hj => by omega, owns_kp hgs.out hM.kp (fun b hb => by simp only [Value.ownBlock, Option.some.injEq] at hb; subst hb; exact hTg), (Kp.of_below hb1).trans hM.kp, Nat.le_of_eq hH⟩
      have hggH : gg < H := by omega
      replace hH := hid hH
      clear hM hz1 hz0
      go_wp2_with fail
      go_loopw [6] (fun kv wg => ∃ (k2 : Nat) (G : Nat → Value), k2 ≤ k ∧ kv = .int .i64 k2 ∧ Grown w wg base k k2 gg H S A n G) (fun kv _ => k - (intOf kv).toNat)
      case atStart => exact ⟨0, _, Nat.zero_le _, rfl, G0⟩
      case round =>
        clear G0
        obtain ⟨k2, G, hk2, rfl, hG⟩ := hrel
        by_cases hlt : k2 < k
        · have hnk := hn k2 hlt
          have hck := kp_cell hG.kp (hcell0.out k2 hlt) hT
          rw [hSj.out k2] at hck
          have hgr := hG.grow hlt hSj.out
          have hH2 := hG.high
          obtain ⟨K2, hK2⟩ : ∃ K2, K2 = wr.heap.size := ⟨_, rfl⟩
          rw [← hK2, hSj.out k2] at hgr
          have hHK : H ≤ K2 := by omega
          replace hK2 := hid hK2
          clear hG
          go_wp2_with fail
          go_loopw [7, 8] (fun gv jv wi => ∃ (t : Nat), t ≤ 40 ∧ jv = .int .i64 t ∧ Growing w wi base k k2 gg H K2 S A n G gv t) (fun _ jv _ => 40 - (intOf jv).toNat)
          case atStart => exact ⟨0, by omega, rfl, hgr⟩
          case round =>
            clear hgr
            obtain ⟨t, ht, rfl, hgr⟩ := hrel
            obtain ⟨va, vc, rfl, _⟩ := owns_form hgr.mine
            rw [mks_len] at hgr ⊢
            by_cases hlt3 : t < 40
            · have hck := kp_cell hgr.kp (hcell0.out k2 hlt) hT
              rw [hSj.out k2] at hck
              have bl := below_lit wr (.cells #[.int .u8 ((mkB k2 (n k2 + t)).toNat : Int)] 5)
              have hg2 := hgr.below bl
              have hlt0 : (wr.alloc (.cells #[.int .u8 ((mkB k2 (n k2 + t)).toNat : Int)] 5)).cell? ((⟨wr.heap.size, 0, none⟩ : Addr).add 0) = some (B (mkB k2 (n k2 + t))) := by
                rw [Addr.add_mid]
                have : (wr.alloc (.cells #[.int .u8 ((mkB k2 (n k2 + t)).toNat : Int)] 5)).heap[wr.heap.size]? = some (.cells #[.int .u8 ((mkB k2 (n k2 + t)).toNat : Int)] 5 (0, 0)) := heap_alloc_new wr _
                unfold World.cell?
                simp only [this]
                rfl
              have hsz := hgr.high
              have hb2 := bl.size
              have hgK : gg < K2 := by omega
              have hwK : w.heap.size ≤ K2 := by rw [← hgg.out]; omega
              have hbz : base ≤ (wr.alloc (.cells #[.int .u8 ((mkB k2 (n k2 + t)).toNat : Int)] 5)).heap.size := by omega
              have hmark := mark_any k2 (n k2 + t) wr (by omega) (by omega)
              have ecast : ((n k2 + t : Nat) : Int) = (n k2 : Int) + (t : Int) := by omega
              rw [ecast] at hmark
              replace ecast := hid ecast
              go_wp2_with fail
              refine hmark.mono ?_
              rintro e w' ⟨rfl, rfl⟩
              go_wp2_with (at_builtin; refine wpList_app1 _ rfl (.tmp 52) (.tmp 62) rfl base _ (mks k2 (n k2 + t)) rfl hg2.mine _ (mkB k2 (n k2 + t)) 1 rfl hlt0 (by rw [mks_len]; omega) hbz ?_; intro v6 w6 ho6 hg6 hb6)
              have hst := hg2.step hlt hSj.out hd hlow hgK hHK hwK (hA0 k2 hlt) ho6 hg6 hb6
              replace hst := hid hst
              clear hg2 hlt0 ho6 hg6 hb6 hck
              go_wp2
              go_roundw
              case rel => exact ⟨t + 1, by omega, by go_num, hst.out⟩
              case measure => simp [intOf]; omega
            · obtain rfl : t = 40 := by omega
              have hput := hgr.put hlt hSj.out hlow (by omega) hHK (Nat.le_of_eq hgg.out.symm)
              have hrc := World.ownsRow.cellAt hgr.row k2 (by omega)
              have hrf := World.ownsRow.frozenAt hgr.row k2
              obtain ⟨u, hu⟩ : ∃ u, ((List.range k).map G)[k2]? = some u := ⟨G k2, by simp [hlt]⟩
              rw [hu] at hrc
              replace hu := hid hu
              replace hput := hid hput
              go_wp2
              go_roundw
              case rel => exact ⟨k2 + 1, _, by omega, by go_num, hput.out⟩
              case measure => simp [intOf]; omega
        · obtain rfl : k = k2 := by omega
          have hz := hG.high
          obtain ⟨WR, hWR⟩ : ∃ WR, WR = wr := ⟨_, rfl⟩
          rw [← hWR] at hG hz ⊢
          clear hWR
          clear hlt
          go_wp2_with fail
          go_loopw [9] (fun kv w9 => ∃ (k3 : Nat), k3 ≤ k ∧ kv = .int .i64 k3 ∧ Below WR.heap.size WR w9) (fun kv _ => k - (intOf kv).toNat)
          case atStart => exact ⟨0, Nat.zero_le _, rfl, Below.refl _ _⟩
          case round =>
            obtain ⟨k3, hk3, rfl, hb9⟩ := hrel
            by_cases hlt : k3 < k
            · have hnk := hn k3 hlt
              obtain ⟨gB, cB, hGv, _, _⟩ := (hG.own k3 hlt).form_pos (fun e => by have := mks_len k3 (n k3 + 40); rw [e] at this; simp at this)
              rw [mks_len] at hGv
              have hoB := hG.own k3 hlt
              rw [hGv] at hoB
              have hrc := World.ownsRow.cellAt hG.row k3 (by omega)
              rw [show ((List.range k).map G)[k3]? = some (G k3) by simp [hlt], hGv] at hrc
              have hrlt := World.block_lt_of_cell? _ _ hrc
              have hck := kp_cell hG.kp (hcell0.out k3 hlt) hT
              rw [hSj.out k3] at hck
              have hclt := World.block_lt_of_cell? _ _ hck
              have cG9 : ∀ W, Below WR.heap.size WR W → W.cell? ⟨gg, k3, none⟩ = some (.slice (some ⟨gB, 0, none⟩) (n k3 + 40) cB) := fun W hb => by rw [hb.cell (p := ⟨gg, k3, none⟩) hrlt]; exact hrc
              have cL9 : ∀ W, Below WR.heap.size WR W → W.cell? ⟨gl, k3, none⟩ = some (.slice (A k3) (n k3) (c k3)) := fun W hb => by rw [hb.cell (p := ⟨gl, k3, none⟩) hclt]; exact hck
              have hat3 := hG.at_ k3 hlt
              replace hGv := hid hGv
              replace hrc := hid hrc
              replace hck := hid hck
              replace cG9 := hid cG9
              replace cL9 := hid cL9
              have y9 := cG9.out _ hb9
              go_wp2_with fail
              go_loopw [10] (fun iv w10 => ∃ (i : Nat), i ≤ n k3 + 40 ∧ iv = .int .i64 i ∧ Below WR.heap.size WR w10) (fun iv _ => n k3 + 40 - (intOf iv).toNat)
              case atStart => exact ⟨0, Nat.zero_le _, rfl, hb9⟩
              case round =>
                clear hb9 y9
                obtain ⟨i, hi, rfl, hb10⟩ := hrel
                have y10 := cG9.out _ hb10
                by_cases hlt4 : i < n k3 + 40
                · have cGs : ∀ W, Below wr.heap.size wr W → W.cell? ⟨gg, k3, none⟩ = some (.slice (some ⟨gB, 0, none⟩) (n k3 + 40) cB) := fun W hb => cG9.out W (bnext hb10 hb)
                  have hcb := hoB.cellAt (mks_len _ _) i hlt4
                  rw [mks_get _ _ _ hlt4] at hcb
                  have hblt := World.block_lt_of_cell? _ _ hcb
                  have cB1 : ∀ W, Below wr.heap.size wr W → W.cell? ⟨gB, i, none⟩ = some (.int .u8 ((mkB k3 i).toNat : Int)) := fun W hb => by rw [(bnext hb10 hb).cell (p := ⟨gB, i, none⟩) hblt]; exact hcb
                  by_cases hlt5 : i < n k3
                  · obtain ⟨bA, oA, hAk, hac⟩ := hat3 (fun e => by have := mks_len k3 (n k3); rw [e] at this; simp at this; omega)
                    have hA00 := hA0 k3 hlt _ hAk
                    simp only [Addr.mk.injEq, true_and] at hA00
                    have hA01 := hA00.1
                    subst hA01
                    have hac2 := hac i (by rw [mks_len]; exact hlt5)
                    have e1 : (mks k3 (n k3))[i]'(by rw [mks_len]; exact hlt5) = mkB k3 i := by simp [mks]
                    rw [e1, Nat.zero_add] at hac2
                    have halt := World.block_lt_of_cell? _ _ hac2
                    have cLs : ∀ W, Below wr.heap.size wr W → W.cell? ⟨gl, k3, none⟩ = some (.slice (some ⟨bA, 0, none⟩) (n k3) (c k3)) := fun W hb => by rw [← hAk]; exact cL9.out W (bnext hb10 hb)
                    have cA1 : ∀ W, Below wr.heap.size wr W → W.cell? ⟨bA, i, none⟩ = some (.int .u8 ((mkB k3 i).toNat : Int)) := fun W hb => by rw [(bnext hb10 hb).cell (p := ⟨bA, i, none⟩) halt]; exact hac2
                    have hlss : ∀ w, (binOp .lss 3 (.int .i64 (i : Int)) (.int .i64 (n k3 : Int))).run Try.prog w = .ok (.bool true) w := fun w => by rw [lss_nat, decide_eq_true hlt5]
                    replace hAk := hid hAk
                    replace hcb := hid hcb
                    replace hac2 := hid hac2
                    clear hac e1
                    go_wp2_with fail
                    refine wp_region_drawn (Rel := fun w w' => Below w.heap.size w w') (Pr := fun q v _ => v = ([.slice (some ⟨gg, 0, none⟩) k k, .int .i64 (k3 : Int), .pointer (some ⟨gg, k3, none⟩), .slice (some ⟨gB, 0, none⟩) (n k3 + 40) cB, .int .i64 (i : Int), .pointer (some ⟨gB, i, none⟩), .int .u8 ((mkB k3 i).toNat : Int), .int .i64 (k3 : Int), .int .i64 (i : Int), .int .u8 ((mkB k3 i).toNat : Int), .bool false, .bool false, .int .i64 (i : Int), .slice (some ⟨gl, 0, none⟩) k cl, .int .i64 (k3 : Int), .pointer (some ⟨gl, k3, none⟩), .slice (some ⟨bA, 0, none⟩) (n k3) (c k3), .int .i64 (n k3 : Int), .bool true, .bool true, .slice (some ⟨gl, 0, none⟩) k cl, .int .i64 (k3 : Int), .pointer (some ⟨gl, k3, none⟩), .slice (some ⟨bA, 0, none⟩) (n k3) (c k3), .int .i64 (i : Int), .pointer (some ⟨bA, i, none⟩), .int .u8 ((mkB k3 i).toNat : Int), .int .i64 (k3 : Int), .int .i64 (i : Int), .int .u8 ((mkB k3 i).toNat : Int), .bool false, .bool false, .bool false]).getD q undef) (by kernel_rfl) (by kernel_rfl) (drew_below _) bel_tr (fun _ _ _ _ h _ => h) ?_ ?_
                    · refine ⟨?_, ?_, ?_, ?_, ?_, ?_, ?_, ?_, ?_, ?_, ?_, ?_, ?_, ?_, ?_, ?_, ?_, ?_, ?_, ?_, ?_, ?_, ?_, ?_, ?_, ?_, ?_, ?_, ?_, ?_, ?_, ?_, ?_, trivial⟩
                      · exact fun a w hR hd hk K hK => yes (want_n rfl) (wp_mv _ rfl _ (get_keep (hk 3 (no_dst (by kernel_rfl))) rfl) (hK _ w rfl (Below.refl _ _)))
                      · exact fun a w hR hd hk K hK => yes (want_n rfl) (wp_mv _ rfl _ (get_keep (hk 9 (no_dst (by kernel_rfl))) rfl) (hK _ w rfl (Below.refl _ _)))
                      · exact fun a w hR hd hk K hK => yes (want_n rfl) (wp_idx74 83 84 gg k k k3 (hd 0 _ 83 rfl rfl rfl) (hd 1 _ 84 rfl rfl rfl) hlt (hK _ w rfl (Below.refl _ _)))
                      · exact fun a w hR hd hk K hK => yes (want_n rfl) (wp_ld26 85 ⟨gg, k3, none⟩ (some ⟨gB, 0, none⟩) (n k3 + 40) cB (hd 2 _ 85 rfl rfl rfl) (cGs w hR) (hK _ w rfl (Below.refl _ _)))
                      · exact fun a w hR hd hk K hK => yes (want_n rfl) (wp_mv _ rfl _ (get_keep (hk 10 (no_dst (by kernel_rfl))) rfl) (hK _ w rfl (Below.refl _ _)))
                      · exact fun a w hR hd hk K hK => yes (want_n rfl) (wp_idx26 86 87 gB (n k3 + 40) cB i (hd 3 _ 86 rfl rfl rfl) (hd 4 _ 87 rfl rfl rfl) hlt4 (hK _ w rfl (Below.refl _ _)))
                      · exact fun a w hR hd hk K hK => yes (want_n rfl) (wp_ld5 88 ⟨gB, i, none⟩ ((mkB k3 i).toNat : Int) (hd 5 _ 88 rfl rfl rfl) (cB1 w hR) (hK _ w rfl (Below.refl _ _)))
                      · exact fun a w hR hd hk K hK => yes (want_n rfl) (wp_mv _ rfl _ (get_keep (hk 9 (no_dst (by kernel_rfl))) rfl) (hK _ w rfl (Below.refl _ _)))
                      · exact fun a w hR hd hk K hK => yes (want_n rfl) (wp_mv _ rfl _ (get_keep (hk 10 (no_dst (by kernel_rfl))) rfl) (hK _ w rfl (Below.refl _ _)))
                      · exact fun a w hR hd hk K hK => yes (want_n rfl) (wp_callv 24 _ _ rfl _ Try.func24 rfl rfl _ (args2 (hd 7 _ 90 rfl rfl rfl) (hd 8 _ 91 rfl rfl rfl)) (mark_any k3 i w (by omega) (by omega)) (by rintro e w' ⟨rfl, rfl⟩; exact ⟨_, rfl, hK _ w' rfl (Below.refl _ _)⟩))
                      · exact fun a w hR hd hk K hK => yes (want_n rfl) (wp_bin _ _ _ _ _ rfl _ _ _ (hd 6 _ 89 rfl rfl rfl) (hd 9 _ 92 rfl rfl rfl) rfl (neq_same w _) (hK _ w rfl (Below.refl _ _)))
                      · exact fun a w hR hd hk K hK => yes (want_n rfl) (wp_mv _ rfl _ (hd 10 _ 93 rfl rfl rfl) (hK _ w rfl (Below.refl _ _)))
                      · exact fun a w hR hd hk K hK => yes (want_g rfl rfl (hd 11 _ 94 rfl rfl rfl)) (wp_mv _ rfl _ (get_keep (hk 10 (no_dst (by kernel_rfl))) rfl) (hK _ w rfl (Below.refl _ _)))
                      · exact fun a w hR hd hk K hK => yes (want_g rfl rfl (hd 11 _ 94 rfl rfl rfl)) (wp_mv _ rfl _ (get_keep (hk 0 (no_dst (by kernel_rfl))) rfl) (hK _ w rfl (Below.refl _ _)))
                      · exact fun a w hR hd hk K hK => yes (want_g rfl rfl (hd 11 _ 94 rfl rfl rfl)) (wp_mv _ rfl _ (get_keep (hk 9 (no_dst (by kernel_rfl))) rfl) (hK _ w rfl (Below.refl _ _)))
                      · exact fun a w hR hd hk K hK => yes (want_g rfl rfl (hd 11 _ 94 rfl rfl rfl)) (wp_idx74 96 97 gl k cl k3 (hd 13 _ 96 rfl rfl rfl) (hd 14 _ 97 rfl rfl rfl) hlt (hK _ w rfl (Below.refl _ _)))
                      · exact fun a w hR hd hk K hK => yes (want_g rfl rfl (hd 11 _ 94 rfl rfl rfl)) (wp_ld26 98 ⟨gl, k3, none⟩ (some ⟨bA, 0, none⟩) (n k3) (c k3) (hd 15 _ 98 rfl rfl rfl) (cLs w hR) (hK _ w rfl (Below.refl _ _)))
                      · exact fun a w hR hd hk K hK => yes (want_g rfl rfl (hd 11 _ 94 rfl rfl rfl)) (wp_len26 99 (n k3) (c k3) (some ⟨bA, 0, none⟩) (hd 16 _ 99 rfl rfl rfl) (hK _ w rfl (Below.refl _ _)))
                      · exact fun a w hR hd hk K hK => yes (want_g rfl rfl (hd 11 _ 94 rfl rfl rfl)) (wp_bin _ _ _ _ _ rfl _ _ _ (hd 12 _ 95 rfl rfl rfl) (hd 17 _ 100 rfl rfl rfl) rfl (hlss w) (hK _ w rfl (Below.refl _ _)))
                      · exact fun a w hR hd hk K hK => yes (want_g rfl rfl (hd 11 _ 94 rfl rfl rfl)) (wp_mv _ rfl _ (hd 18 _ 101 rfl rfl rfl) (hK _ w rfl (Below.refl _ _)))
                      · exact fun a w hR hd hk K hK => yes (want_g rfl rfl (hd 19 _ 102 rfl rfl rfl)) (wp_mv _ rfl _ (get_keep (hk 0 (no_dst (by kernel_rfl))) rfl) (hK _ w rfl (Below.refl _ _)))
                      · exact fun a w hR hd hk K hK => yes (want_g rfl rfl (hd 19 _ 102 rfl rfl rfl)) (wp_mv _ rfl _ (get_keep (hk 9 (no_dst (by kernel_rfl))) rfl) (hK _ w rfl (Below.refl _ _)))
                      · exact fun a w hR hd hk K hK => yes (want_g rfl rfl (hd 19 _ 102 rfl rfl rfl)) (wp_idx74 103 104 gl k cl k3 (hd 20 _ 103 rfl rfl rfl) (hd 21 _ 104 rfl rfl rfl) hlt (hK _ w rfl (Below.refl _ _)))
                      · exact fun a w hR hd hk K hK => yes (want_g rfl rfl (hd 19 _ 102 rfl rfl rfl)) (wp_ld26 105 ⟨gl, k3, none⟩ (some ⟨bA, 0, none⟩) (n k3) (c k3) (hd 22 _ 105 rfl rfl rfl) (cLs w hR) (hK _ w rfl (Below.refl _ _)))
                      · exact fun a w hR hd hk K hK => yes (want_g rfl rfl (hd 19 _ 102 rfl rfl rfl)) (wp_mv _ rfl _ (get_keep (hk 10 (no_dst (by kernel_rfl))) rfl) (hK _ w rfl (Below.refl _ _)))
                      · exact fun a w hR hd hk K hK => yes (want_g rfl rfl (hd 19 _ 102 rfl rfl rfl)) (wp_idx26 106 107 bA (n k3) (c k3) i (hd 23 _ 106 rfl rfl rfl) (hd 24 _ 107 rfl rfl rfl) hlt5 (hK _ w rfl (Below.refl _ _)))
                      · exact fun a w hR hd hk K hK => yes (want_g rfl rfl (hd 19 _ 102 rfl rfl rfl)) (wp_ld5 108 ⟨bA, i, none⟩ ((mkB k3 i).toNat : Int) (hd 25 _ 108 rfl rfl rfl) (cA1 w hR) (hK _ w rfl (Below.refl _ _)))
                      · exact fun a w hR hd hk K hK => yes (want_g rfl rfl (hd 19 _ 102 rfl rfl rfl)) (wp_mv _ rfl _ (get_keep (hk 9 (no_dst (by kernel_rfl))) rfl) (hK _ w rfl (Below.refl _ _)))
                      · exact fun a w hR hd hk K hK => yes (want_g rfl rfl (hd 19 _ 102 rfl rfl rfl)) (wp_mv _ rfl _ (get_keep (hk 10 (no_dst (by kernel_rfl))) rfl) (hK _ w rfl (Below.refl _ _)))
                      · exact fun a w hR hd hk K hK => yes (want_g rfl rfl (hd 19 _ 102 rfl rfl rfl)) (wp_callv 24 _ _ rfl _ Try.func24 rfl rfl _ (args2 (hd 27 _ 110 rfl rfl rfl) (hd 28 _ 111 rfl rfl rfl)) (mark_any k3 i w (by omega) (by omega)) (by rintro e w' ⟨rfl, rfl⟩; exact ⟨_, rfl, hK _ w' rfl (Below.refl _ _)⟩))
                      · exact fun a w hR hd hk K hK => yes (want_g rfl rfl (hd 19 _ 102 rfl rfl rfl)) (wp_bin _ _ _ _ _ rfl _ _ _ (hd 26 _ 109 rfl rfl rfl) (hd 29 _ 112 rfl rfl rfl) rfl (neq_same w _) (hK _ w rfl (Below.refl _ _)))
                      · exact fun a w hR hd hk K hK => yes (want_g rfl rfl (hd 11 _ 94 rfl rfl rfl)) (wp_pick _ _ _ rfl true _ (hd 19 _ 102 rfl rfl rfl) (hd 30 _ 113 rfl rfl rfl) (hK _ w rfl (Below.refl _ _)))
                      · exact fun a w hR hd hk K hK => yes (want_n rfl) (wp_pick _ _ _ rfl false _ (hd 11 _ 94 rfl rfl rfl) (hd 31 _ 114 rfl rfl rfl) (hK _ w rfl (Below.refl _ _)))
                    · intro a w11 hdf hsz hkp hval hRw
                      obtain ⟨f, hf⟩ : ∃ f, f = fun d => a.tmps.getD d undef := ⟨_, rfl⟩
                      have h115 : f 115 = .bool false := by rw [hf]; exact hval 32 _ 115 rfl rfl
                      have hfa := act_filled hdf hsz hkp
                      rw [← hf] at hfa
                      rw [hfa]
                      clear hdf hsz hkp hval hfa hf
                      clear a
                      simp only [fillAll, List.set_cons_zero, List.set_cons_succ, h115]
                      clear h115
                      have b11 := bnext hb10 hRw
                      clear cGs cB1 cLs cA1 hRw
                      go_wp2
                      go_roundw
                      case rel => exact ⟨i + 1, by omega, by go_num, b11⟩
                      case measure => simp [intOf]; omega
                  · have cLs : ∀ W, Below wr.heap.size wr W → W.cell? ⟨gl, k3, none⟩ = some (.slice (A k3) (n k3) (c k3)) := fun W hb => cL9.out W (bnext hb10 hb)
                    have hlss : ∀ w, (binOp .lss 3 (.int .i64 (i : Int)) (.int .i64 (n k3 : Int))).run Try.prog w = .ok (.bool false) w := fun w => by rw [lss_nat, decide_eq_false hlt5]
                    replace hcb := hid hcb
                    go_wp2_with fail
                    refine wp_region_drawn (Rel := fun w w' => Below w.heap.size w w') (Pr := fun q v _ => v = ([.slice (some ⟨gg, 0, none⟩) k k, .int .i64 (k3 : Int), .pointer (some ⟨gg, k3, none⟩), .slice (some ⟨gB, 0, none⟩) (n k3 + 40) cB, .int .i64 (i : Int), .pointer (some ⟨gB, i, none⟩), .int .u8 ((mkB k3 i).toNat : Int), .int .i64 (k3 : Int), .int .i64 (i : Int), .int .u8 ((mkB k3 i).toNat : Int), .bool false, .bool false, .int .i64 (i : Int), .slice (some ⟨gl, 0, none⟩) k cl, .int .i64 (k3 : Int), .pointer (some ⟨gl, k3, none⟩), .slice (A k3) (n k3) (c k3), .int .i64 (n k3 : Int), .bool false, .bool false, undef, undef, undef, undef, undef, undef, undef, undef, undef, undef, undef, .bool false, .bool false]).getD q undef) (by kernel_rfl) (by kernel_rfl) (drew_below _) bel_tr (fun _ _ _ _ h _ => h) ?_ ?_
                    · refine ⟨?_, ?_, ?_, ?_, ?_, ?_, ?_, ?_, ?_, ?_, ?_, ?_, ?_, ?_, ?_, ?_, ?_, ?_, ?_, ?_, ?_, ?_, ?_, ?_, ?_, ?_, ?_, ?_, ?_, ?_, ?_, ?_, ?_, trivial⟩
                      · exact fun a w hR hd hk K hK => yes (want_n rfl) (wp_mv _ rfl _ (get_keep (hk 3 (no_dst (by kernel_rfl))) rfl) (hK _ w rfl (Below.refl _ _)))
                      · exact fun a w hR hd hk K hK => yes (want_n rfl) (wp_mv _ rfl _ (get_keep (hk 9 (no_dst (by kernel_rfl))) rfl) (hK _ w rfl (Below.refl _ _)))
                      · exact fun a w hR hd hk K hK => yes (want_n rfl) (wp_idx74 83 84 gg k k k3 (hd 0 _ 83 rfl rfl rfl) (hd 1 _ 84 rfl rfl rfl) hlt (hK _ w rfl (Below.refl _ _)))
                      · exact fun a w hR hd hk K hK => yes (want_n rfl) (wp_ld26 85 ⟨gg, k3, none⟩ (some ⟨gB, 0, none⟩) (n k3 + 40) cB (hd 2 _ 85 rfl rfl rfl) (cGs w hR) (hK _ w rfl (Below.refl _ _)))
                      · exact fun a w hR hd hk K hK => yes (want_n rfl) (wp_mv _ rfl _ (get_keep (hk 10 (no_dst (by kernel_rfl))) rfl) (hK _ w rfl (Below.refl _ _)))
                      · exact fun a w hR hd hk K hK => yes (want_n rfl) (wp_idx26 86 87 gB (n k3 + 40) cB i (hd 3 _ 86 rfl rfl rfl) (hd 4 _ 87 rfl rfl rfl) hlt4 (hK _ w rfl (Below.refl _ _)))
                      · exact fun a w hR hd hk K hK => yes (want_n rfl) (wp_ld5 88 ⟨gB, i, none⟩ ((mkB k3 i).toNat : Int) (hd 5 _ 88 rfl rfl rfl) (cB1 w hR) (hK _ w rfl (Below.refl _ _)))
                      · exact fun a w hR hd hk K hK => yes (want_n rfl) (wp_mv _ rfl _ (get_keep (hk 9 (no_dst (by kernel_rfl))) rfl) (hK _ w rfl (Below.refl _ _)))
                      · exact fun a w hR hd hk K hK => yes (want_n rfl) (wp_mv _ rfl _ (get_keep (hk 10 (no_dst (by kernel_rfl))) rfl) (hK _ w rfl (Below.refl _ _)))
                      · exact fun a w hR hd hk K hK => yes (want_n rfl) (wp_callv 24 _ _ rfl _ Try.func24 rfl rfl _ (args2 (hd 7 _ 90 rfl rfl rfl) (hd 8 _ 91 rfl rfl rfl)) (mark_any k3 i w (by omega) (by omega)) (by rintro e w' ⟨rfl, rfl⟩; exact ⟨_, rfl, hK _ w' rfl (Below.refl _ _)⟩))
                      · exact fun a w hR hd hk K hK => yes (want_n rfl) (wp_bin _ _ _ _ _ rfl _ _ _ (hd 6 _ 89 rfl rfl rfl) (hd 9 _ 92 rfl rfl rfl) rfl (neq_same w _) (hK _ w rfl (Below.refl _ _)))
                      · exact fun a w hR hd hk K hK => yes (want_n rfl) (wp_mv _ rfl _ (hd 10 _ 93 rfl rfl rfl) (hK _ w rfl (Below.refl _ _)))
                      · exact fun a w hR hd hk K hK => yes (want_g rfl rfl (hd 11 _ 94 rfl rfl rfl)) (wp_mv _ rfl _ (get_keep (hk 10 (no_dst (by kernel_rfl))) rfl) (hK _ w rfl (Below.refl _ _)))
                      · exact fun a w hR hd hk K hK => yes (want_g rfl rfl (hd 11 _ 94 rfl rfl rfl)) (wp_mv _ rfl _ (get_keep (hk 0 (no_dst (by kernel_rfl))) rfl) (hK _ w rfl (Below.refl _ _)))
                      · exact fun a w hR hd hk K hK => yes (want_g rfl rfl (hd 11 _ 94 rfl rfl rfl)) (wp_mv _ rfl _ (get_keep (hk 9 (no_dst (by kernel_rfl))) rfl) (hK _ w rfl (Below.refl _ _)))
                      · exact fun a w hR hd hk K hK => yes (want_g rfl rfl (hd 11 _ 94 rfl rfl rfl)) (wp_idx74 96 97 gl k cl k3 (hd 13 _ 96 rfl rfl rfl) (hd 14 _ 97 rfl rfl rfl) hlt (hK _ w rfl (Below.refl _ _)))
                      · exact fun a w hR hd hk K hK => yes (want_g rfl rfl (hd 11 _ 94 rfl rfl rfl)) (wp_ld26 98 ⟨gl, k3, none⟩ (A k3) (n k3) (c k3) (hd 15 _ 98 rfl rfl rfl) (cLs w hR) (hK _ w rfl (Below.refl _ _)))
                      · exact fun a w hR hd hk K hK => yes (want_g rfl rfl (hd 11 _ 94 rfl rfl rfl)) (wp_len26 99 (n k3) (c k3) (A k3) (hd 16 _ 99 rfl rfl rfl) (hK _ w rfl (Below.refl _ _)))
                      · exact fun a w hR hd hk K hK => yes (want_g rfl rfl (hd 11 _ 94 rfl rfl rfl)) (wp_bin _ _ _ _ _ rfl _ _ _ (hd 12 _ 95 rfl rfl rfl) (hd 17 _ 100 rfl rfl rfl) rfl (hlss w) (hK _ w rfl (Below.refl _ _)))
                      · exact fun a w hR hd hk K hK => yes (want_g rfl rfl (hd 11 _ 94 rfl rfl rfl)) (wp_mv _ rfl _ (hd 18 _ 101 rfl rfl rfl) (hK _ w rfl (Below.refl _ _)))
                      · exact fun a w hR hd hk K hK => nope (want_f rfl rfl (hd 19 _ 102 rfl rfl rfl) (by decide)) (hK _ w rfl (Below.refl _ _))
                      · exact fun a w hR hd hk K hK => nope (want_f rfl rfl (hd 19 _ 102 rfl rfl rfl) (by decide)) (hK _ w rfl (Below.refl _ _))
                      · exact fun a w hR hd hk K hK => nope (want_f rfl rfl (hd 19 _ 102 rfl rfl rfl) (by decide)) (hK _ w rfl (Below.refl _ _))
                      · exact fun a w hR hd hk K hK => nope (want_f rfl rfl (hd 19 _ 102 rfl rfl rfl) (by decide)) (hK _ w rfl (Below.refl _ _))
                      · exact fun a w hR hd hk K hK => nope (want_f rfl rfl (hd 19 _ 102 rfl rfl rfl) (by decide)) (hK _ w rfl (Below.refl _ _))
                      · exact fun a w hR hd hk K hK => nope (want_f rfl rfl (hd 19 _ 102 rfl rfl rfl) (by decide)) (hK _ w rfl (Below.refl _ _))
                      · exact fun a w hR hd hk K hK => nope (want_f rfl rfl (hd 19 _ 102 rfl rfl rfl) (by decide)) (hK _ w rfl (Below.refl _ _))
                      · exact fun a w hR hd hk K hK => nope (want_f rfl rfl (hd 19 _ 102 rfl rfl rfl) (by decide)) (hK _ w rfl (Below.refl _ _))
                      · exact fun a w hR hd hk K hK => nope (want_f rfl rfl (hd 19 _ 102 rfl rfl rfl) (by decide)) (hK _ w rfl (Below.refl _ _))
                      · exact fun a w hR hd hk K hK => nope (want_f rfl rfl (hd 19 _ 102 rfl rfl rfl) (by decide)) (hK _ w rfl (Below.refl _ _))
                      · exact fun a w hR hd hk K hK => nope (want_f rfl rfl (hd 19 _ 102 rfl rfl rfl) (by decide)) (hK _ w rfl (Below.refl _ _))
                      · exact fun a w hR hd hk K hK => yes (want_g rfl rfl (hd 11 _ 94 rfl rfl rfl)) (wp_pick _ _ _ rfl false _ (hd 19 _ 102 rfl rfl rfl) rfl (hK _ w rfl (Below.refl _ _)))
                      · exact fun a w hR hd hk K hK => yes (want_n rfl) (wp_pick _ _ _ rfl false _ (hd 11 _ 94 rfl rfl rfl) (hd 31 _ 114 rfl rfl rfl) (hK _ w rfl (Below.refl _ _)))
                    · intro a w11 hdf hsz hkp hval hRw
                      obtain ⟨f, hf⟩ : ∃ f, f = fun d => a.tmps.getD d undef := ⟨_, rfl⟩
                      have h115 : f 115 = .bool false := by rw [hf]; exact hval 32 _ 115 rfl rfl
                      have hfa := act_filled hdf hsz hkp
                      rw [← hf] at hfa
                      rw [hfa]
                      clear hdf hsz hkp hval hfa hf
                      clear a
                      simp only [fillAll, List.set_cons_zero, List.set_cons_succ, h115]
                      clear h115
                      have b11 := bnext hb10 hRw
                      clear cGs cB1 cLs hRw
                      go_wp2
                      go_roundw
                      case rel => exact ⟨i + 1, by omega, by go_num, b11⟩
                      case measure => simp [intOf]; omega
                · obtain rfl : i = n k3 + 40 := by omega
                  go_wp2
                  go_roundw
                  case rel => exact ⟨k3 + 1, by omega, by go_num, hb10⟩
                  case measure => simp [intOf]; omega
            · obtain rfl : k = k3 := by omega
              have hfin := hG.kp.trans (Kp.of_below hb9)
              go_wp2
              go_ret
              exact ⟨rfl, hfin⟩
end Go.Proofs.Ytcbgnodmamcmkab
