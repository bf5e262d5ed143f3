/- What the document's Put answers: ErrArg, ErrLong, or the fields' bytes. -/
import Derived.Test.YtkkdiciadkcmmaaRefRight3
import Derived.Test.YtkkdiciadkcmmaaRef1
namespace Go.Proofs.Ytkkdiciadkcmmaa
open Go.RowKit

theorem refRight_yes (a : Option Addr) (len cap : Nat) (its : List It) (w : World) (hl : its.length = len) (hat : FAt w a its) (hsh : ∀ i ∈ its, Short i) (h : Right (fds its)) :
    Calls Try.prog 18 #[.slice a len cap] w fun e w' => e = .returned (.bool true) ∧ Below w.heap.size w w' := by
  refine (refRight_any a len cap its w hl hat hsh).mono ?_
  rintro e w' ⟨r, rfl, hr, hb⟩
  rw [hr.2 h]
  exact ⟨rfl, hb⟩

theorem refRight_no (a : Option Addr) (len cap : Nat) (its : List It) (w : World) (hl : its.length = len) (hat : FAt w a its) (hsh : ∀ i ∈ its, Short i) (h : ¬ Right (fds its)) :
    Calls Try.prog 18 #[.slice a len cap] w fun e w' => e = .returned (.bool false) ∧ Below w.heap.size w w' := by
  refine (refRight_any a len cap its w hl hat hsh).mono ?_
  rintro e w' ⟨r, rfl, hr, hb⟩
  cases r with
  | true => exact absurd (hr.1 rfl) h
  | false => exact ⟨rfl, hb⟩

theorem refput_no (a : Option Addr) (len cap : Nat) (its : List It) (w : World) (hl : its.length = len) (hat : FAt w a its) (hsh : ∀ i ∈ its, Short i) (h : ¬ Right (fds its)) :
    Calls Try.prog 15 #[.slice a len cap] w fun e w' => e = .returned (.tuple #[.slice none 0 0, .int .i64 2]) ∧ Below w.heap.size w w' := by
  go_enter Try.func15, Try.ntmps15
  go_wp2_with fail
  refine (refRight_no a len cap its _ hl hat hsh h).mono ?_
  rintro e w1 ⟨rfl, hb⟩
  go_wp2
  go_ret2
  exact ⟨rfl, hb⟩

theorem upto_mono (its : List It) (j k : Nat) (h : j ≤ k) : (upto its j).length ≤ (upto its k).length := by
  unfold upto
  have : (fds its).take j = ((fds its).take k).take j := by rw [List.take_take, Nat.min_eq_left h]
  rw [this]
  obtain ⟨r, hr⟩ : ∃ r, (fds its).take k = ((fds its).take k).take j ++ r := ⟨_, (List.take_append_drop j _).symm⟩
  generalize ((fds its).take k).take j = x at *
  rw [hr, List.flatMap_append, List.length_append]
  omega

theorem refadd_of (a : Option Addr) (cap len n v : Nat) (X : Int) (l : List UInt8) (w : World) (base : Nat) (hX : X = (v : Int)) (hl : l.length = len) (hlen : len ≤ 140737488355328) (hn : n ≤ 8) (hn0 : 0 < n) (hv : v < 18446744073709551616) (hat : At w a l) (hbase : base ≤ w.heap.size) :
    Calls Try.prog 38 #[.slice a len cap, .int .u64 X, .int .i64 n] w fun e w' => ∃ a' c' L, Hid (L = l ++ be n v) ∧ e = .returned (.slice a' L.length c') ∧ Own w' base (.slice a' L.length c') L ∧ Below w.heap.size w w' := by
  subst hX
  refine (refadd_any a cap len n v l w hl hlen hn hn0 hv hat).mono ?_
  rintro e w' ⟨r, rfl, ho, hb⟩
  obtain ⟨a', c', rfl, _, _⟩ := ho.form
  exact ⟨a', c', _, hid rfl, rfl, ho.le hbase, hb⟩

theorem refaddtext_of (a : Option Addr) (cap len : Nat) (l : List UInt8) (s : ByteArray) (w : World) (base : Nat) (hl : l.length = len) (hlen : len ≤ 140737488355328) (hs : s.size ≤ 65535) (hat : At w a l) (hbase : base ≤ w.heap.size) :
    Calls Try.prog 39 #[.slice a len cap, .string s] w fun e w' => ∃ a' c' L, Hid (L = l ++ encT s) ∧ e = .returned (.tuple #[.slice a' L.length c', .int .i64 0]) ∧ Own w' base (.slice a' L.length c') L ∧ Below w.heap.size w w' := by
  go_enter Try.func39, Try.ntmps39
  go_wp2_with fail
  refine (refadd_any a cap len 2 s.size l _ hl hlen (by omega) (by omega) (by omega) hat).mono ?_
  rintro e w1 ⟨r, rfl, ho1, hb1⟩
  have hz := hb1.size
  obtain ⟨L, hen⟩ : ∃ L, L = l ++ be 2 s.size ++ s.data.toList := ⟨_, rfl⟩
  have hen2 : L = l ++ encT s := by rw [hen]; unfold encT; rw [List.append_assoc]
  replace hen := hid hen
  replace hen2 := hid hen2
  go_wp2_with (at_builtin; refine wpList_app_string _ rfl (.tmp 13) (.tmp 14) rfl rfl w.heap.size r _ s rfl ho1 rfl (by simp [be_length]; omega) hz ?_; intro v2 w2 ho2 hb2; rw [← hen.out] at ho2; obtain ⟨a2, c2, hv2, hc2, hat2⟩ := ho2.form; rw [hv2]; rw [hv2] at ho2)
  go_ret2
  exact ⟨a2, c2, L, hen2, rfl, ho2.le hbase, hb1.trans hb2⟩

/-- The field's own block behind the append of its two bytes. -/
theorem put_mid {w wr w1 : World} {M : List UInt8} {av a1 : Option Addr} {cv c1 : Nat} {k0 k1 k2 k3 k4 k5 : Value} {o : Obj} {src : List UInt8} (hbr : Below w.heap.size w wr) (ho : Own wr w.heap.size (.slice av M.length cv) M)
    (hg : ((wr.alloc (.cells #[k0, k1, k2, k3, k4, k5] 30)).alloc o).grownBy w1 (Value.slice av M.length cv).ownBlock) (ho1 : Own w1 w.heap.size (.slice a1 src.length c1) src) :
    RB w1 wr.heap.size k0 k1 k2 k3 k4 k5 ∧ Below w.heap.size w w1 ∧ At w1 a1 src ∧ (∀ (a : Option Addr) (cs : List Value), CAt wr a cs → (∀ x, a = some x → cs ≠ [] → x.block < w.heap.size) → CAt w1 a cs) := by
  have hb2 : Below wr.heap.size wr ((wr.alloc (.cells #[k0, k1, k2, k3, k4, k5] 30)).alloc o) := bnext (below_lit wr _) (below_lit _ _)
  have ho2 := ho.below hb2
  have hk := Kp.grown hg
  have hb := (bnext hbr hb2).trans (hk.below (fun k e => (ho2.lt k e).1) (bnext hbr hb2).size)
  refine ⟨(show RB _ _ _ _ _ _ _ _ from (heap_two wr _ _).1).kp hk (fun e => owns_block_ne ho2 (heap_two wr _ _).1 (by decide) e), hb, ho1.at', fun a cs hc hx => ?_⟩
  by_cases hne : cs = []
  · subst hne; exact CAt.nil _ _
  · refine (hc.below hb2).kp hk (fun x hx' e => ?_)
    have := (ho2.lt _ e).1
    have := hx x hx' hne
    omega

set_option maxRecDepth 100000 in
set_option maxHeartbeats 8000000 in
theorem refput_right (a : Option Addr) (len cap : Nat) (its : List It) (w : World) (hl : its.length = len) (hat : FAt w a its) (hsh : ∀ i ∈ its, Short i) (h : Right (fds its)) :
    Calls Try.prog 15 #[.slice a len cap] w fun e w' => ((65000 < (bytesOf (fds its)).length ∧ e = .returned (.tuple #[.slice none 0 0, .int .i64 3])) ∨ ((bytesOf (fds its)).length ≤ 65000 ∧ ∃ v, e = .returned (.tuple #[v, .int .i64 0]) ∧ Own w' w.heap.size v (bytesOf (fds its)))) ∧ Below w.heap.size w w' := by
  have hri := (right_iff its).1 h
  have hgood : ∀ q (hq : q < its.length), Good its[q].fd := fun q hq => (hri.2 q hq).1
  have h64 : len ≤ 64 := by have := hri.1; omega
  have hall := upto_all its
  rw [hl] at hall
  have hmono : ∀ j, j ≤ len → 65000 < (UInt8.ofNat len :: upto its j).length → 65000 < (bytesOf (fds its)).length := fun j hj hh => by
    rw [hall]
    have := upto_mono its j len hj
    simp only [List.length_cons] at hh ⊢
    omega
  replace hmono := hid hmono
  replace hgood := hid hgood
  replace hall := hid hall
  clear hri
  have hc0 := refRight_yes a len cap its w hl hat hsh h
  go_enter Try.func15, Try.ntmps15
  go_wp2_with fail
  refine hc0.mono ?_
  rintro e w1 ⟨rfl, hb1⟩
  replace h := hid h
  clear hc0 hsh
  go_wp2_with fail
  refine (refadd_of none 0 0 1 len _ [] _ w.heap.size (by first | rfl | omega) rfl (by omega) (by omega) (by omega) (by omega) (at_nil _ _) hb1.size).mono ?_
  rintro e w2 ⟨a2, d2, L, hL, rfl, ho2, hb2⟩
  have hb2' := bnext hb1 hb2
  have hone : L = UInt8.ofNat len :: upto its 0 := by rw [hL.out]; simp [be, upto]
  subst hone
  clear hL
  go_wp2
  go_loopw [4, 5] (fun s i wr => ∃ j : Nat, j ≤ len ∧ i = .int .i64 j ∧ Own wr w.heap.size s (UInt8.ofNat len :: upto its j) ∧ (UInt8.ofNat len :: upto its j).length ≤ 65000 ∧ Below w.heap.size w wr) (fun _ i _ => len - (intOf i).toNat)
  case atStart => exact ⟨0, Nat.zero_le _, rfl, ho2, by simp [upto], hb2'⟩
  case round =>
    obtain ⟨j, hj, rfl, ho, hM, hb⟩ := hrel
    obtain ⟨av, cv, rfl, _, _⟩ := ho.form
    by_cases hlt : j < len
    · have hatw := hat.below hb
      obtain ⟨b, o, rfl, hc⟩ := hatw.form (by intro e; subst e; simp at hl; omega)
      obtain ⟨c0, c1, c2, c3, c4, c5⟩ := hc j (by omega)
      have hit := hat.2 (its[j]'(by omega)) (List.getElem_mem _)
      have hlowN : ∀ x, (its[j]'(by omega)).na = some x → nvals (its[j]'(by omega)).fd.ns ≠ [] → x.block < w.heap.size := fun x hx hne => CAt.lt hit.ns hne x hx
      have hlowT : ∀ x, (its[j]'(by omega)).ta = some x → tvals (its[j]'(by omega)).fd.texts ≠ [] → x.block < w.heap.size := fun x hx hne => CAt.lt hit.ts hne x hx
      have hitw := hatw.2 (its[j]'(by omega)) (List.getElem_mem _)
      have hgj := hgood.out j (by omega)
      have hsn : UInt8.ofNat len :: upto its (j + 1) = (UInt8.ofNat len :: upto its j) ++ bytesF (its[j]'(by omega)).fd := by rw [upto_snoc its j (by omega)]; rfl
      have hend := hmono.out (j + 1) (by omega)
      rw [hsn] at hend
      generalize its[j]'(by omega) = it at *
      clear hc hatw hit
      replace hl := hid hl
      obtain ⟨⟨tag, kind, n, text, ns, texts⟩, na, nc, ta, tc⟩ := it
      have hn := hitw.ns
      have ht := hitw.ts
      clear hitw
      dsimp only at c0 c1 c2 c3 c4 c5 hn ht hlowN hlowT hsn hend hgj
      obtain ⟨F, hFd⟩ : ∃ F, F = bytesF ⟨tag, kind, n, text, ns, texts⟩ := ⟨_, rfl⟩
      rw [← hFd] at hsn hend
      replace hsn := hid hsn
      replace hend := hid hend
      replace hFd := hid hFd
      generalize UInt8.ofNat len :: upto its j = M at *
      rcases hgj with ⟨hk, _⟩ | ⟨hk, _, _, hg2, _⟩ | ⟨hk, _, _, _, hg3, _⟩ | ⟨hk, _, _, _, _, hg3, hg4⟩
      all_goals dsimp only at hk
      · subst hk
        have hF : [tag, 1] ++ (be 8 (Ytkkdiciadkcmmaa.u64 n)) = F := by rw [hFd.out, bytes1 _ rfl]
        have hatA : At ((wr.alloc (.cells #[.int .u8 (tag.toNat : Int), .int .u8 1, .int .i64 n, .string text, .slice na ns.length nc, .slice ta texts.length tc] 30)).alloc (.cells #[.int .u8 (tag.toNat : Int), .int .u8 1] 5)) (some ⟨wr.heap.size + 1, 0, none⟩) [tag, 1] := at_lit' _ _ _ _ (by simp) (by simp [B])
        have hoA := (ho.below (below_lit wr (.cells #[.int .u8 (tag.toNat : Int), .int .u8 1, .int .i64 n, .string text, .slice na ns.length nc, .slice ta texts.length tc] 30))).below (below_lit _ (.cells #[.int .u8 (tag.toNat : Int), .int .u8 1] 5))
        have hzA := (bnext hb (bnext (below_lit wr (.cells #[.int .u8 (tag.toNat : Int), .int .u8 1, .int .i64 n, .string text, .slice na ns.length nc, .slice ta texts.length tc] 30)) (below_lit _ (.cells #[.int .u8 (tag.toNat : Int), .int .u8 1] 5)))).size
        replace hF := hid hF
        have hX := u64_wrap n
        have hu := u64_lt n
        go_wp2_with (at_builtin; refine wpList_more _ rfl (.tmp 26) (.tmp 31) rfl rfl w.heap.size _ M [tag, 1] rfl hoA (some ⟨wr.heap.size + 1, 0, none⟩) 2 2 rfl rfl hatA (by omega) hzA ?_; intro v1 w1 ho1 hg1 _; obtain ⟨L1, hL1⟩ : ∃ L1, L1 = M ++ [tag, 1] := ⟨_, rfl⟩; rw [← hL1] at ho1; have hL1l : L1.length ≤ 65002 := (by rw [hL1]; simp; omega); replace hL1 := hid hL1; obtain ⟨a1, d1, rfl, _, hat1⟩ := ho1.form; obtain ⟨hrb1, hb1, hat1', hkeep⟩ := put_mid hb ho hg1 ho1; obtain ⟨x0, x1, x2, x3, x4, x5⟩ := hrb1.six; have hz1 := hb1.size)
        refine (refadd_of _ _ _ 8 (Ytkkdiciadkcmmaa.u64 n) _ L1 _ w.heap.size (by first | rfl | exact hX | omega) rfl (by omega) (by omega) (by omega) hu hat1' hz1).mono ?_
        rintro e w2 ⟨a2, d2, L, hL, rfl, ho2, hb2⟩
        have hb2' := bnext hb1 hb2
        have hLF : L = M ++ F := by rw [hL.out, hL1.out, List.append_assoc, hF.out]
        replace hLF := hid hLF
        by_cases hlong : 65000 < L.length
        · have hlong2 := hend.out (by rw [← hLF.out]; exact hlong)
          replace hlong2 := hid hlong2
          go_wp2
          go_ret2
          exact ⟨.inl ⟨hlong2.out, rfl⟩, hb2'⟩
        · have hlong3 : L.length ≤ 65000 := by omega
          go_wp2
          go_roundw
          case rel => exact ⟨j + 1, by omega, by go_num, by rw [hsn.out, ← hLF.out]; exact ho2, by rw [hsn.out, ← hLF.out]; exact hlong3, hb2'⟩
          case measure => simp [intOf]; omega
      · subst hk
        have hF : [tag, 2] ++ (encT text) = F := by rw [hFd.out, bytes2 _ rfl, List.append_assoc]; rfl
        have hatA : At ((wr.alloc (.cells #[.int .u8 (tag.toNat : Int), .int .u8 2, .int .i64 n, .string text, .slice na ns.length nc, .slice ta texts.length tc] 30)).alloc (.cells #[.int .u8 (tag.toNat : Int), .int .u8 2] 5)) (some ⟨wr.heap.size + 1, 0, none⟩) [tag, 2] := at_lit' _ _ _ _ (by simp) (by simp [B])
        have hoA := (ho.below (below_lit wr (.cells #[.int .u8 (tag.toNat : Int), .int .u8 2, .int .i64 n, .string text, .slice na ns.length nc, .slice ta texts.length tc] 30))).below (below_lit _ (.cells #[.int .u8 (tag.toNat : Int), .int .u8 2] 5))
        have hzA := (bnext hb (bnext (below_lit wr (.cells #[.int .u8 (tag.toNat : Int), .int .u8 2, .int .i64 n, .string text, .slice na ns.length nc, .slice ta texts.length tc] 30)) (below_lit _ (.cells #[.int .u8 (tag.toNat : Int), .int .u8 2] 5)))).size
        replace hF := hid hF
        go_wp2_with (at_builtin; refine wpList_more _ rfl (.tmp 26) (.tmp 31) rfl rfl w.heap.size _ M [tag, 2] rfl hoA (some ⟨wr.heap.size + 1, 0, none⟩) 2 2 rfl rfl hatA (by omega) hzA ?_; intro v1 w1 ho1 hg1 _; obtain ⟨L1, hL1⟩ : ∃ L1, L1 = M ++ [tag, 2] := ⟨_, rfl⟩; rw [← hL1] at ho1; have hL1l : L1.length ≤ 65002 := (by rw [hL1]; simp; omega); replace hL1 := hid hL1; obtain ⟨a1, d1, rfl, _, hat1⟩ := ho1.form; obtain ⟨hrb1, hb1, hat1', hkeep⟩ := put_mid hb ho hg1 ho1; obtain ⟨x0, x1, x2, x3, x4, x5⟩ := hrb1.six; have hz1 := hb1.size)
        refine (refaddtext_of _ _ _ L1 text _ w.heap.size rfl (by omega) hg2 hat1' hz1).mono ?_
        rintro e w2 ⟨a2, d2, L, hL, rfl, ho2, hb2⟩
        have hb2' := bnext hb1 hb2
        have hLF : L = M ++ F := by rw [hL.out, hL1.out, List.append_assoc, hF.out]
        replace hLF := hid hLF
        by_cases hlong : 65000 < L.length
        · have hlong2 := hend.out (by rw [← hLF.out]; exact hlong)
          replace hlong2 := hid hlong2
          go_wp2
          go_ret2
          exact ⟨.inl ⟨hlong2.out, rfl⟩, hb2'⟩
        · have hlong3 : L.length ≤ 65000 := by omega
          go_wp2
          go_roundw
          case rel => exact ⟨j + 1, by omega, by go_num, by rw [hsn.out, ← hLF.out]; exact ho2, by rw [hsn.out, ← hLF.out]; exact hlong3, hb2'⟩
          case measure => simp [intOf]; omega
      · subst hk
        have hF : [tag, 3] ++ (be 2 ns.length ++ ns.flatMap encN) = F := by rw [hFd.out, bytes3 _ rfl, List.append_assoc]
        have hatA : At ((wr.alloc (.cells #[.int .u8 (tag.toNat : Int), .int .u8 3, .int .i64 n, .string text, .slice na ns.length nc, .slice ta texts.length tc] 30)).alloc (.cells #[.int .u8 (tag.toNat : Int), .int .u8 3] 5)) (some ⟨wr.heap.size + 1, 0, none⟩) [tag, 3] := at_lit' _ _ _ _ (by simp) (by simp [B])
        have hoA := (ho.below (below_lit wr (.cells #[.int .u8 (tag.toNat : Int), .int .u8 3, .int .i64 n, .string text, .slice na ns.length nc, .slice ta texts.length tc] 30))).below (below_lit _ (.cells #[.int .u8 (tag.toNat : Int), .int .u8 3] 5))
        have hzA := (bnext hb (bnext (below_lit wr (.cells #[.int .u8 (tag.toNat : Int), .int .u8 3, .int .i64 n, .string text, .slice na ns.length nc, .slice ta texts.length tc] 30)) (below_lit _ (.cells #[.int .u8 (tag.toNat : Int), .int .u8 3] 5)))).size
        replace hF := hid hF
        obtain ⟨nl, hnl⟩ : ∃ nl, nl = ns.length := ⟨_, rfl⟩
        have hg3' : nl ≤ 256 := by rw [hnl]; exact hg3
        rw [← hnl] at hF hoA hzA hatA
        rw [← hnl] at c4
        replace hnl := hid hnl
        go_wp2_with (at_builtin; refine wpList_more _ rfl (.tmp 26) (.tmp 31) rfl rfl w.heap.size _ M [tag, 3] rfl hoA (some ⟨wr.heap.size + 1, 0, none⟩) 2 2 rfl rfl hatA (by omega) hzA ?_; intro v1 w1 ho1 hg1 _; obtain ⟨L1, hL1⟩ : ∃ L1, L1 = M ++ [tag, 3] := ⟨_, rfl⟩; rw [← hL1] at ho1; have hL1l : L1.length ≤ 65002 := (by rw [hL1]; simp; omega); replace hL1 := hid hL1; obtain ⟨a1, d1, rfl, _, hat1⟩ := ho1.form; obtain ⟨hrb1, hb1, hat1', hkeep⟩ := put_mid hb ho hg1 ho1; obtain ⟨x0, x1, x2, x3, x4, x5⟩ := hrb1.six; have hz1 := hb1.size)
        have hcs := hkeep _ _ hn (fun x hx hne => hlowN x hx hne)
        refine (refadd_of _ _ _ 2 nl _ L1 _ w.heap.size (by first | rfl | omega) rfl (by omega) (by omega) (by omega) (by omega) hat1' hz1).mono ?_
        rintro e w2 ⟨a2, d2, L, hL, rfl, ho2, hb2⟩
        have hrb2 := hrb1.below hb2
        have hcs2 := hcs.below hb2
        have hb2' := bnext hb1 hb2
        have hPl : L.length ≤ 65004 := by rw [hL.out, List.length_append, be_length]; omega
        have hPF : L ++ ns.flatMap encN = M ++ F := by rw [hL.out, hL1.out, ← hF.out]; simp only [List.append_assoc]
        replace hPF := hid hPF
        clear hcs hrb1 hat1 hat1' hkeep x0 x1 x2 x3 x4 x5 ho1 hg1 hoA hatA
        go_wp2
        go_loopw [4, 7] (fun s i wq => ∃ q : Nat, q ≤ nl ∧ i = .int .i64 q ∧ Own wq w.heap.size s (L ++ (ns.take q).flatMap encN) ∧ RB wq wr.heap.size (.int .u8 (tag.toNat : Int)) (.int .u8 3) (.int .i64 n) (.string text) (.slice na nl nc) (.slice ta texts.length tc) ∧ CAt wq na (nvals ns) ∧ Below w.heap.size w wq) (fun _ i _ => nl - (intOf i).toNat)
        case atStart => exact ⟨0, Nat.zero_le _, rfl, by simpa using ho2, hrb2, hcs2, hb2'⟩
        case round =>
          obtain ⟨q, hq, rfl, hoq, hrq, hcq, hbq⟩ := hrel
          obtain ⟨aq, dq, rfl, _, hatq⟩ := hoq.form
          obtain ⟨y0, y1, y2, y3, y4, y5⟩ := hrq.six
          have hzq := hbq.size
          by_cases hlt2 : q < nl
          · obtain ⟨b, o, rfl, hc⟩ := NAt.form hcq (by intro e; subst e; have := hnl.out; simp at this; omega)
            have hcj := hc q (by have := hnl.out; omega)
            have hsn2 := flatN_snoc ns q (by have := hnl.out; omega)
            have hLl : (L ++ (ns.take q).flatMap encN).length ≤ 70000 + 256 * 65537 := by
              rw [List.length_append]
              have := flatN_len (ns.take q); have h9 := List.length_take_le q ns; rw [this]
              omega
            have hX := u64_wrap (ns[q]'(by have := hnl.out; omega))
            have hu := u64_lt (ns[q]'(by have := hnl.out; omega))
            clear hc
            generalize ns[q]'(by have := hnl.out; omega) = x at *
            replace hsn2 : L ++ (ns.take (q + 1)).flatMap encN = (L ++ (ns.take q).flatMap encN) ++ encN x := by rw [hsn2, List.append_assoc]
            generalize L ++ (ns.take q).flatMap encN = L2 at *
            replace hsn2 := hid hsn2
            go_wp2_with fail
            refine (refadd_of _ _ _ 8 (Ytkkdiciadkcmmaa.u64 x) _ L2 _ w.heap.size (by first | rfl | exact hX | omega) rfl (by omega) (by omega) (by omega) hu hatq hzq).mono ?_
            rintro e w3 ⟨a3, d3, L3, hL3, rfl, ho3, hb3⟩
            have hr3 := hrq.below hb3
            have hc3 := hcq.below hb3
            have hb3' := bnext hbq hb3
            go_wp2
            go_roundw
            case rel => exact ⟨q + 1, by omega, by go_num, by rw [hsn2.out, show L2 ++ encN x = L3 from hL3.out.symm]; exact ho3, hr3, hc3, hb3'⟩
            case measure => simp [intOf]; omega
          · obtain rfl : q = nl := by omega
            obtain ⟨L, hLF⟩ : ∃ K, K = L ++ (ns.take q).flatMap encN := ⟨_, rfl⟩
            rw [← hLF] at hoq ⊢
            replace hLF : L = M ++ F := by rw [hLF, hnl.out, List.take_length]; exact hPF.out
            replace hLF := hid hLF
            by_cases hlong : 65000 < L.length
            · have hlong2 := hend.out (by rw [← hLF.out]; exact hlong)
              replace hlong2 := hid hlong2
              go_wp2
              go_ret2
              exact ⟨.inl ⟨hlong2.out, rfl⟩, hbq⟩
            · have hlong3 : L.length ≤ 65000 := by omega
              go_wp2
              go_roundw
              case rel => exact ⟨j + 1, by omega, by go_num, by rw [hsn.out, ← hLF.out]; exact hoq, by rw [hsn.out, ← hLF.out]; exact hlong3, hbq⟩
              case measure => simp [intOf]; omega
      · subst hk
        have hF : [tag, 4] ++ (be 2 texts.length ++ texts.flatMap encT) = F := by rw [hFd.out, bytes4 _ rfl, List.append_assoc]
        have hatA : At ((wr.alloc (.cells #[.int .u8 (tag.toNat : Int), .int .u8 4, .int .i64 n, .string text, .slice na ns.length nc, .slice ta texts.length tc] 30)).alloc (.cells #[.int .u8 (tag.toNat : Int), .int .u8 4] 5)) (some ⟨wr.heap.size + 1, 0, none⟩) [tag, 4] := at_lit' _ _ _ _ (by simp) (by simp [B])
        have hoA := (ho.below (below_lit wr (.cells #[.int .u8 (tag.toNat : Int), .int .u8 4, .int .i64 n, .string text, .slice na ns.length nc, .slice ta texts.length tc] 30))).below (below_lit _ (.cells #[.int .u8 (tag.toNat : Int), .int .u8 4] 5))
        have hzA := (bnext hb (bnext (below_lit wr (.cells #[.int .u8 (tag.toNat : Int), .int .u8 4, .int .i64 n, .string text, .slice na ns.length nc, .slice ta texts.length tc] 30)) (below_lit _ (.cells #[.int .u8 (tag.toNat : Int), .int .u8 4] 5)))).size
        replace hF := hid hF
        obtain ⟨nl, hnl⟩ : ∃ nl, nl = texts.length := ⟨_, rfl⟩
        have hg3' : nl ≤ 256 := by rw [hnl]; exact hg3
        rw [← hnl] at hF hoA hzA hatA
        rw [← hnl] at c5
        replace hnl := hid hnl
        go_wp2_with (at_builtin; refine wpList_more _ rfl (.tmp 26) (.tmp 31) rfl rfl w.heap.size _ M [tag, 4] rfl hoA (some ⟨wr.heap.size + 1, 0, none⟩) 2 2 rfl rfl hatA (by omega) hzA ?_; intro v1 w1 ho1 hg1 _; obtain ⟨L1, hL1⟩ : ∃ L1, L1 = M ++ [tag, 4] := ⟨_, rfl⟩; rw [← hL1] at ho1; have hL1l : L1.length ≤ 65002 := (by rw [hL1]; simp; omega); replace hL1 := hid hL1; obtain ⟨a1, d1, rfl, _, hat1⟩ := ho1.form; obtain ⟨hrb1, hb1, hat1', hkeep⟩ := put_mid hb ho hg1 ho1; obtain ⟨x0, x1, x2, x3, x4, x5⟩ := hrb1.six; have hz1 := hb1.size)
        have hcs := hkeep _ _ ht (fun x hx hne => hlowT x hx hne)
        refine (refadd_of _ _ _ 2 nl _ L1 _ w.heap.size (by first | rfl | omega) rfl (by omega) (by omega) (by omega) (by omega) hat1' hz1).mono ?_
        rintro e w2 ⟨a2, d2, L, hL, rfl, ho2, hb2⟩
        have hrb2 := hrb1.below hb2
        have hcs2 := hcs.below hb2
        have hb2' := bnext hb1 hb2
        have hPl : L.length ≤ 65004 := by rw [hL.out, List.length_append, be_length]; omega
        have hPF : L ++ texts.flatMap encT = M ++ F := by rw [hL.out, hL1.out, ← hF.out]; simp only [List.append_assoc]
        replace hPF := hid hPF
        clear hcs hrb1 hat1 hat1' hkeep x0 x1 x2 x3 x4 x5 ho1 hg1 hoA hatA
        go_wp2
        go_loopw [4, 8] (fun s i wq => ∃ q : Nat, q ≤ nl ∧ i = .int .i64 q ∧ Own wq w.heap.size s (L ++ (texts.take q).flatMap encT) ∧ RB wq wr.heap.size (.int .u8 (tag.toNat : Int)) (.int .u8 4) (.int .i64 n) (.string text) (.slice na ns.length nc) (.slice ta nl tc) ∧ CAt wq ta (tvals texts) ∧ Below w.heap.size w wq) (fun _ i _ => nl - (intOf i).toNat)
        case atStart => exact ⟨0, Nat.zero_le _, rfl, by simpa using ho2, hrb2, hcs2, hb2'⟩
        case round =>
          obtain ⟨q, hq, rfl, hoq, hrq, hcq, hbq⟩ := hrel
          obtain ⟨aq, dq, rfl, _, hatq⟩ := hoq.form
          obtain ⟨y0, y1, y2, y3, y4, y5⟩ := hrq.six
          have hzq := hbq.size
          by_cases hlt2 : q < nl
          · obtain ⟨b, o, rfl, hc⟩ := TAt.form hcq (by intro e; subst e; have := hnl.out; simp at this; omega)
            have hcj := hc q (by have := hnl.out; omega)
            have hsn2 := flatT_snoc texts q (by have := hnl.out; omega)
            have hLl : (L ++ (texts.take q).flatMap encT).length ≤ 70000 + 256 * 65537 := by
              rw [List.length_append]
              have := flatT_take_le texts hg4 q; rw [← hnl.out] at this
              omega
            have hsz := hg4 (texts[q]'(by have := hnl.out; omega)) (List.getElem_mem _)
            clear hc
            generalize texts[q]'(by have := hnl.out; omega) = x at *
            replace hsn2 : L ++ (texts.take (q + 1)).flatMap encT = (L ++ (texts.take q).flatMap encT) ++ encT x := by rw [hsn2, List.append_assoc]
            generalize L ++ (texts.take q).flatMap encT = L2 at *
            replace hsn2 := hid hsn2
            go_wp2_with fail
            refine (refaddtext_of _ _ _ L2 x _ w.heap.size rfl (by omega) hsz hatq hzq).mono ?_
            rintro e w3 ⟨a3, d3, L3, hL3, rfl, ho3, hb3⟩
            have hr3 := hrq.below hb3
            have hc3 := hcq.below hb3
            have hb3' := bnext hbq hb3
            go_wp2
            go_roundw
            case rel => exact ⟨q + 1, by omega, by go_num, by rw [hsn2.out, show L2 ++ encT x = L3 from hL3.out.symm]; exact ho3, hr3, hc3, hb3'⟩
            case measure => simp [intOf]; omega
          · obtain rfl : q = nl := by omega
            obtain ⟨L, hLF⟩ : ∃ K, K = L ++ (texts.take q).flatMap encT := ⟨_, rfl⟩
            rw [← hLF] at hoq ⊢
            replace hLF : L = M ++ F := by rw [hLF, hnl.out, List.take_length]; exact hPF.out
            replace hLF := hid hLF
            by_cases hlong : 65000 < L.length
            · have hlong2 := hend.out (by rw [← hLF.out]; exact hlong)
              replace hlong2 := hid hlong2
              go_wp2
              go_ret2
              exact ⟨.inl ⟨hlong2.out, rfl⟩, hbq⟩
            · have hlong3 : L.length ≤ 65000 := by omega
              go_wp2
              go_roundw
              case rel => exact ⟨j + 1, by omega, by go_num, by rw [hsn.out, ← hLF.out]; exact hoq, by rw [hsn.out, ← hLF.out]; exact hlong3, hbq⟩
              case measure => simp [intOf]; omega
    · obtain rfl : j = len := by omega
      go_wp2
      go_ret2
      refine ⟨.inr ⟨by rw [hall.out]; exact hM, _, rfl, by rw [hall.out]; exact ho⟩, hb⟩

end Go.Proofs.Ytkkdiciadkcmmaa
