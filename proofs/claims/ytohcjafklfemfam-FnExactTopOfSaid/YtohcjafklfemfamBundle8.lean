/-
  Contract of the laws' own helper markText: the same text of a number each time.
  Contract of the laws' own helper markLabelS: it writes texts of rising numbers into a list of labels that the caller owns.
  Contract of the laws' own helper laws.markTotalS: it writes rising numbers into rows that lie in memory of their own, and into nothing else.
  Totals that are owned lie in memory. Nothing of the program's text is proved here.
  Contract of the laws' own helper eqIntS: it says that two lists of ints alike are alike.
  Plain mathematics: the numbers of a text, one behind the other. Nothing of Go stands here.
  Contracts of the laws' own helpers: laws.markIntS writes rising numbers into a list that the caller owns, laws.heldIntS finds them there.
  The walk of the law FnExactTopOf: it returns true at every list of totals and every two numbers; memory that was there stays as it was.
-/
import Derived.Test.YtohcjafklfemfamBundle7
import Derived.Test.YtohcjafklfemfamBundle2
import Derived.Test.YtohcjafklfemfamBundle1
import Derived.Deep.QuietTactic
import Derived.BigQuiet
import Derived.Maps.AppendAt
import Derived.Test.YtohcjafklfemfamBundle5
namespace Go.Proofs.Ytohcjafklfemfam.L3
open Go.RowKit L1
set_option linter.unusedVariables false

/-- A number's digits. -/
def dgN (k : Nat) : List Int := if h : k = 0 then [] else dgN (k / 10) ++ [48 + ((k % 10 : Nat) : Int)]
termination_by k
decreasing_by omega
theorem dgN_zero : dgN 0 = [] := by rw [dgN]; simp
theorem dgN_succ (k : Nat) (h : k ≠ 0) : dgN k = dgN (k / 10) ++ [48 + ((k % 10 : Nat) : Int)] := by
  conv => lhs; rw [dgN]
  rw [dif_neg h]
theorem dgN_len (k : Nat) : (dgN k).length ≤ k := by
  induction k using Nat.strongRecOn with
  | _ k ih =>
    by_cases h : k = 0
    · rw [h, dgN_zero]; simp
    · rw [dgN_succ k h]
      have := ih (k / 10) (by omega)
      simp only [List.length_append, List.length_cons, List.length_nil]
      omega
theorem str_app (l m : List Int) : strOfNums (l ++ m) = strOfNums l ++ strOfNums m := by
  apply ByteArray.ext
  apply Array.toList_inj.1
  show _ = (ByteArray.append (strOfNums l) (strOfNums m)).data.toList
  simp [strOfNums, ByteArray.append]
theorem str_size (l : List Int) : (strOfNums l).size = l.length := by
  show (strOfNums l).data.size = _
  simp [strOfNums]
/-- The text that marks a number. -/
def mkT (k : Int) : ByteArray := if k ≤ 0 then ⟨#[109, 48]⟩ else strOfNums (109 :: dgN k.toNat)

set_option maxRecDepth 100000 in
set_option maxHeartbeats 1000000 in
theorem markText_any (k : Int) (w : World) (h0 : 0 < k) (h1 : k ≤ 4294967296) :
    Calls Try.prog 48 #[.int .i64 k] w fun e w' => e = .returned (.string (mkT k)) ∧ Below w.heap.size w w' := by
  obtain ⟨n, rfl⟩ : ∃ n : Nat, k = (n : Int) := ⟨k.toNat, by omega⟩
  have hk : ¬ (n : Int) ≤ 0 := by omega
  have HT : Hid (mkT (n : Int) = strOfNums [109] ++ strOfNums (dgN n)) := by
    show mkT (n : Int) = _
    unfold mkT
    rw [if_neg hk, ← str_app]
    simp
  have HL := hide (dgN_len n)
  go_enter Try.func48, Try.ntmps48
  go_wp2
  go_loopw [0, 3] (fun kv o wr => ∃ (j : Nat) (L : List Int), j ≤ n ∧ kv = .int .i64 j ∧ o = .string (strOfNums L) ∧ Hid (dgN j ++ L = dgN n) ∧ Below w.heap.size w wr) (fun kv _ _ => (intOf kv).toNat)
  case atStart => exact ⟨n, [], Nat.le_refl _, rfl, rfl, by show dgN n ++ [] = dgN n; simp, Below.refl _ _⟩
  case round =>
    obtain ⟨j, L, hj, rfl, rfl, HD, hbel⟩ := hrel
    have hLs : L.length ≤ n := by
      have := congrArg List.length HD.out
      have h2 := HL.out
      rw [List.length_append] at this
      omega
    have hsz := str_size L
    have happ := fun d => str_app [d] L
    obtain ⟨A, hA⟩ : ∃ A, A = strOfNums L := ⟨_, rfl⟩
    rw [← hA] at hsz ⊢
    simp only [← hA] at happ
    have hA8 : (A.size : Int) ≤ 4294967296 := by omega
    have HA := hide hA
    have HAPP := hide happ
    clear hsz hA happ
    by_cases hj0 : 0 < (j : Int)
    · have hd : Int.tmod (j : Int) 10 = ((j % 10 : Nat) : Int) := by rw [Int.tmod_eq_emod_of_nonneg (by omega)]; omega
      have hq : Int.tdiv (j : Int) 10 = ((j / 10 : Nat) : Int) := by rw [Int.tdiv_eq_ediv_of_nonneg (by omega)]; omega
      have hst := dgN_succ j (by omega)
      have hd9 : j % 10 < 10 := Nat.mod_lt _ (by omega)
      have hjq : j / 10 < j := by omega
      obtain ⟨d, hde⟩ : ∃ d, d = j % 10 := ⟨_, rfl⟩
      obtain ⟨q, hqe⟩ : ∃ q, q = j / 10 := ⟨_, rfl⟩
      rw [← hde] at hd hst hd9
      rw [← hqe] at hq hst hjq
      have hcv : (convert 99 9 (.slice (some ⟨wr.heap.size, 0, none⟩) 1 1)).run Try.prog (wr.alloc (.cells #[.int .u8 (48 + (d : Int))] 5)) = .ok (.string (strOfNums [48 + (d : Int)])) (wr.alloc (.cells #[.int .u8 (48 + (d : Int))] 5)) :=
        run_convert_bytes_arg _ 99 5 Try.underlying99 Try.underlying5 wr.heap.size 0 1 1 [48 + (d : Int)] rfl (fun i hi => by
          obtain rfl : i = 0 := by omega
          simp) 9 Try.underlying9
      have hw8 : IntKind.u8.wrap (48 + (d : Int)) = 48 + (d : Int) := by
        simp only [IntKind.wrap, IntKind.bits, IntKind.signed]
        simp
        omega
      obtain ⟨D, hD⟩ : ∃ D, D = strOfNums [48 + (d : Int)] := ⟨_, rfl⟩
      have hDs : (D.size : Int) ≤ 8 := by rw [hD, str_size]; simp
      rw [← hD] at hcv
      have R : Hid (D ++ A = strOfNums ((48 + (d : Int)) :: L)) := by show D ++ A = _; rw [hD, ← HAPP.out]; rfl
      have R2 : Hid (dgN q ++ ((48 + (d : Int)) :: L) = dgN n) := by show _ = _; rw [← HD.out, hst]; simp
      have B0 := hide hbel
      clear hde hqe hD hst hbel
      go_wp2
      go_roundw
      case rel => exact ⟨q, (48 + (d : Int)) :: L, by omega, by go_num, by rw [R.out], R2.out, B0.out.alloc B0.out.size _⟩
      case measure => simp [intOf]; omega
    · obtain rfl : j = 0 := by omega
      have e : L = dgN n := by have := HD.out; rw [dgN_zero] at this; simpa using this
      have HE : Hid (mkT (n : Int) = ⟨#[109]⟩ ++ A) := by show mkT (n : Int) = _; rw [HT.out, HA.out, e]; rfl
      have B0 := hide hbel
      clear e hbel
      go_wp2
      go_ret
      exact ⟨by rw [HE.out]; rfl, B0.out⟩
end Go.Proofs.Ytohcjafklfemfam.L3

namespace Go.Proofs.Ytohcjafklfemfam.L3
open Go.RowKit L1
set_option linter.unusedVariables false

def mkL (c : Int) (n : Nat) : List Lb := (List.range n).map fun i : Nat => (mkT (c + 2 * (i : Int)), mkT (c + 2 * (i : Int) + 1))
theorem mkL_len (c : Int) (n : Nat) : (mkL c n).length = n := by simp [mkL]
theorem mkL_get (c : Int) (n j : Nat) (h : j < n) : (mkL c n).getD j eL = (mkT (c + 2 * (j : Int)), mkT (c + 2 * (j : Int) + 1)) := by
  simp [mkL, List.getD, h]

theorem grown_below {w w' : World} (h : Below w.heap.size w w') (row : Option Nat) : w.grownBy w' row := ⟨h.os, h.tape, h.output, h.size, fun k hk _ => h.block k hk⟩
set_option maxRecDepth 100000 in
set_option maxHeartbeats 2000000 in
theorem markLabelS_from (base : Nat) (v : Value) (l : List Lb) (n : Nat) (w : World) (c : Int) (hc0 : 0 < c) (hc1 : c ≤ 1073741824) (hn2 : n ≤ 1048576) (ho : w.ownsRow base 87 2 v n (flatL l)) (hbase : base ≤ w.heap.size) :
    Calls Try.prog 47 #[v, .int .i64 c] w fun e w' => e = .returned (.int .i64 (c + 2 * (n : Int))) ∧ w'.ownsRow base 87 2 v n (flatL (mkL c n)) ∧ Below base w w' ∧ w.grownBy w' v.ownBlock := by
  obtain ⟨a, cap0, rfl, _, hl0⟩ := own_formL ho
  by_cases hn0 : n = 0
  · subst hn0
    have hx : l = [] := List.eq_nil_of_length_eq_zero hl0
    subst hx
    have HO := hide ho
    clear ho hl0
    go_enter Try.func47, Try.ntmps47
    go_wp2
    go_loop [1, 5] (fun k i => k = .int .i64 c ∧ i = .int .i64 0) (fun _ _ => 0)
    case atStart => exact ⟨rfl, rfl⟩
    case round =>
      obtain ⟨rfl, rfl⟩ := hrel
      go_wp2
      go_ret
      exact ⟨by simp, HO.out, Below.refl _ _, World.grownBy.refl _ _⟩
  · obtain ⟨g, cap, e⟩ : ∃ g cap, Value.slice a n cap0 = .slice (some ⟨g, 0, none⟩) n cap := by
      rcases ho.2 with ⟨_, h0⟩ | ⟨g, cap, cur, hv, _⟩
      · omega
      · exact ⟨g, cap, hv⟩
    cases e
    have hge := (ho.lt g rfl).1
    have HO := hide ho
    have HL := hide hl0
    clear ho hl0 hn0
    go_enter Try.func47, Try.ntmps47
    go_wp2
    go_loopw [1, 5] (fun k i wr => ∃ (j : Nat) (ys : List Lb), j ≤ n ∧ i = .int .i64 j ∧ k = .int .i64 (c + 2 * (j : Int)) ∧ ys.length = n ∧ Hid (∀ t, t < j → ys.getD t eL = (mkL c n).getD t eL) ∧
        wr.ownsRow base 87 2 (.slice (some ⟨g, 0, none⟩) n cap0) n (flatL ys) ∧ Below base w wr ∧ w.grownBy wr (some g)) (fun _ i _ => n - (intOf i).toNat)
    case atStart => exact ⟨0, l, by omega, rfl, by simp, HL.out, fun t ht => absurd ht (Nat.not_lt_zero _), HO.out, Below.refl _ _, World.grownBy.refl _ _⟩
    case round =>
      obtain ⟨j, ys, hj, rfl, rfl, hyl, HY, hown, hbel, hgr⟩ := hrel
      by_cases hlt : j < n
      · have hltI : (j : Int) < (n : Int) := by omega
        have C1 := hide (fun w => markText_any (c + 2 * (j : Int)) w (by omega) (by omega))
        have C2 := hide (fun w => markText_any (c + 2 * (j : Int) + 1) w (by omega) (by omega))
        have hlf : (flatL ys).length = n * 2 := by rw [flatL_len, hyl]
        obtain ⟨x, hx⟩ : ∃ x, x = mkT (c + 2 * (j : Int)) := ⟨_, rfl⟩
        obtain ⟨y, hy⟩ : ∃ y, y = mkT (c + 2 * (j : Int) + 1) := ⟨_, rfl⟩
        simp only [← hx] at C1
        simp only [← hy] at C2
        have hsz := hbel.size
        have HLF := hide hlf
        have HOW := hide hown
        have B0 := hide hbel
        have G0 := hide hgr
        have HX := hide hx
        have HYY := hide hy
        have HYL := hide hyl
        clear hlf hown hbel hgr hx hy hyl
        go_wp2_with fail
        refine (C1.out _).mono ?_
        rintro e w1 ⟨rfl, hb1⟩
        have hown1 := own_belowT HOW.out hb1
        have hcl := hown1.cellAt (j * 2) (by omega)
        have hfr := hown1.frozenAt (j * 2)
        obtain ⟨u, hu⟩ : ∃ u, w1.cell? ⟨g, j * 2, none⟩ = some u := ⟨_, hcl.trans (List.getElem?_eq_getElem (by rw [HLF.out]; omega))⟩
        have hs1 := hown1.stored (j * 2) (.string x)
        have B1 := hide ((B0.out.trans (hb1.mono (by omega))).setCell (p := ⟨g, j * 2, none⟩) hge (.string x))
        have G1 := hide (G0.out.trans ((grown_below hb1 _).trans hs1.2))
        have O1 := hide hs1.1
        clear hown1 hcl hs1 hb1
        go_wp2_with fail
        refine (C2.out _).mono ?_
        rintro e w2 ⟨rfl, hb2⟩
        have hown2 := own_belowT O1.out hb2
        have hcl := hown2.cellAt (j * 2 + 1) (by omega)
        have hfr2 := hown2.frozenAt (j * 2 + 1)
        obtain ⟨u2, hu2⟩ : ∃ u, w2.cell? ⟨g, j * 2 + 1, none⟩ = some u := ⟨_, hcl.trans (List.getElem?_eq_getElem (by rw [List.length_set, HLF.out]; omega))⟩
        have hs2 := hown2.stored (j * 2 + 1) (.string y)
        have hz1 := B1.out.size
        have B2 := hide ((B1.out.trans (hb2.mono (by omega))).setCell (p := ⟨g, j * 2 + 1, none⟩) hge (.string y))
        have G2 := hide (G1.out.trans ((grown_below hb2 _).trans hs2.2))
        have R : ∃ (j' : Nat) (ys' : List Lb), j' ≤ n ∧ Value.int .i64 ((j : Int) + 1) = .int .i64 j' ∧ Value.int .i64 (c + 2 * (j : Int) + 1 + 1) = .int .i64 (c + 2 * (j' : Int)) ∧ ys'.length = n ∧ Hid (∀ t, t < j' → ys'.getD t eL = (mkL c n).getD t eL) ∧
            (w2.setCell ⟨g, j * 2 + 1, none⟩ (.string y)).ownsRow base 87 2 (.slice (some ⟨g, 0, none⟩) n cap0) n (flatL ys') ∧ Below base w (w2.setCell ⟨g, j * 2 + 1, none⟩ (.string y)) ∧ w.grownBy (w2.setCell ⟨g, j * 2 + 1, none⟩ (.string y)) (some g) := by
          refine ⟨j + 1, ys.set j (x, y), by omega, by simp, by simp; omega, by simpa using HYL.out, ?_, by rw [flatL_set]; exact hs2.1, B2.out, G2.out⟩
          intro t ht
          by_cases e : t = j
          · subst e
            rw [mkL_get c n t (by omega), ← HX.out, ← HYY.out]
            simp [List.getD, HYL.out, hlt]
          · rw [← HY.out t (by omega)]
            simp [List.getD, Ne.symm e]
        have HR := hide R
        clear hcl hs2 hown2 R hb2
        go_wp2
        go_roundw
        case rel => exact HR.out
        case measure => simp [intOf]; omega
      · obtain rfl : j = n := by omega
        have e : ys = mkL c j := list_sameL (mkL_len c j) hyl (fun t ht => HY.out t ht)
        subst e
        have hltI : ¬ (j : Int) < (j : Int) := by omega
        clear hyl
        go_wp2
        go_ret
        exact ⟨rfl, hown, hbel, hgr⟩

theorem markLabelS_all (base : Nat) (v : Value) (l : List Lb) (n : Nat) (w : World) (hn2 : n ≤ 1048576) (ho : w.ownsRow base 87 2 v n (flatL l)) (hbase : base ≤ w.heap.size) :
    Calls Try.prog 47 #[v, .int .i64 1] w fun e w' => e = .returned (.int .i64 (1 + 2 * (n : Int))) ∧ w'.ownsRow base 87 2 v n (flatL (mkL 1 n)) ∧ Below base w w' ∧ w.grownBy w' v.ownBlock :=
  markLabelS_from base v l n w 1 (by omega) (by omega) hn2 ho hbase

end Go.Proofs.Ytohcjafklfemfam.L3

namespace Go.Proofs.Ytohcjafklfemfam.L14T
open Go.RowKit L1 L3
set_option linter.unusedVariables false

/-- The number that one's marks begin with. -/
def kt (c : Int) (L : List Rw) : Nat → Int
  | 0 => c
  | i + 1 => kt c L i + 2 * ((gr L i).l.length : Int) + 4
/-- The marks. -/
def mkr (c : Int) (L : List Rw) (i : Nat) : Rw := ⟨mkL (kt c L i) (gr L i).l.length, kt c L i + 2 * ((gr L i).l.length : Int), kt c L i + 2 * ((gr L i).l.length : Int) + 1, kt c L i + 2 * ((gr L i).l.length : Int) + 2, kt c L i + 2 * ((gr L i).l.length : Int) + 3⟩
def mkrs (c : Int) (L : List Rw) : List Rw := (List.range L.length).map (mkr c L)
theorem mkrs_len (c : Int) (L : List Rw) : (mkrs c L).length = L.length := by simp [mkrs]
theorem mkrs_get (c : Int) (L : List Rw) (i : Nat) (h : i < L.length) : gr (mkrs c L) i = mkr c L i := by simp [gr, mkrs, List.getD, h]
theorem kt_pos (c : Int) (hc : 0 < c) (L : List Rw) : ∀ i, 0 < kt c L i
  | 0 => hc
  | i + 1 => by have := kt_pos c hc L i; unfold kt; omega
theorem kt_few (c : Int) (L : List Rw) : ∀ i, i ≤ L.length → kt c L i ≤ c + 2 * (szr (L.take i) : Int) + 4 * (i : Int)
  | 0, _ => by simp [kt, szr]
  | i + 1, h => by
    have ih := kt_few c L i (by omega)
    have e := szr_take L i (by omega)
    have e2 : (L.getD i eR).l.length ≤ wt (L.getD i eR).l := by unfold wt; omega
    unfold kt
    show kt c L i + 2 * ((L.getD i eR).l.length : Int) + 4 ≤ _
    omega
theorem kt_le (c : Int) (L : List Rw) (i : Nat) (h : i ≤ L.length) : kt c L i ≤ c + 4 * (wtR L : Int) := by
  have h1 := kt_few c L i h
  have h2 := szr_le L i
  unfold wtR
  omega
/-- All blocks lie below a number. -/
structure InR (hi : Nat) (v : Value) (n : Nat) (M : List PR) : Prop where
  row : ∀ g, v.ownBlock = some g → g < hi
  idx : ∀ i, i < n → ∀ g, (M.getD i eV).2.ownBlock = some g → g < hi
theorem OwR.inR {w : World} {base n : Nat} {v : Value} {M : List PR} (h : OwR w base v n M) : InR w.heap.size v n M :=
  ⟨fun g hg => (L8.own_lt h.row g hg).2, fun i hi g hg => (L8.own_lt (h.idx i hi) g hg).2⟩
theorem OwR.only {lo hi : Nat} {w w' : World} (h : L8.Only lo hi w w') {base n : Nat} {v : Value} {M : List PR} (ho : OwR w base v n M) (hb : hi ≤ base) : OwR w' base v n M :=
  ⟨ho.len, h.row ho.row hb, fun i hi => h.row (ho.idx i hi) hb, ho.apart⟩

set_option maxRecDepth 100000 in
set_option maxHeartbeats 4000000 in
theorem markTotalS_any (c0 : Int) (hc0 : 0 < c0) (base hi : Nat) (v : Value) (n : Nat) (M : List PR) (L : List Rw) (w : World) (hML : rws M = L) (hn2 : n ≤ 1048576) (hk : ∀ i, i ≤ n → kt c0 L i ≤ 1073741824) (hX : ∀ i, i < n → (gr L i).l.length ≤ 1048576) (hin : InR hi v n M) (ho : OwR w base v n M) (hbw : base ≤ w.heap.size) :
    Calls Try.prog 18 #[v, .int .i64 c0] w fun e w' => e = .returned (.int .i64 (kt c0 L n)) ∧ (∃ M', rws M' = mkrs c0 L ∧ OwR w' base v n M') ∧ L8.Only base hi w w' := by
  have hLn : L.length = n := by rw [← hML]; simpa using ho.len
  obtain ⟨a, cap, rfl, _⟩ := ho.form
  by_cases hn0 : n = 0
  · subst hn0
    have hL0 : L = [] := List.eq_nil_of_length_eq_zero hLn
    have hM0 : M = [] := List.eq_nil_of_length_eq_zero ho.len
    subst hL0 hM0
    have O := hide ho
    clear ho hML hk hX hin hLn
    go_enter Try.func18, Try.ntmps18
    go_wp2
    go_loop [1, 5] (fun k i => k = .int .i64 c0 ∧ i = .int .i64 0) (fun _ _ => 0)
    case atStart => exact ⟨rfl, rfl⟩
    case round =>
      obtain ⟨rfl, rfl⟩ := hrel
      go_wp2
      go_ret
      exact ⟨rfl, ⟨[], rfl, O.out⟩, L8.Only.refl _ _ _⟩
  · obtain ⟨g, rfl⟩ : ∃ g, a = some ⟨g, 0, none⟩ := by
      rcases ho.row.2 with ⟨_, h0⟩ | ⟨g, cap2, cur, hv, _⟩
      · omega
      · cases hv; exact ⟨g, rfl⟩
    have hgr : base ≤ g ∧ g < hi := ⟨(L8.own_lt ho.row g rfl).1, hin.row g rfl⟩
    have O := hide ho
    have HML := hide hML
    have HLN := hide hLn
    have HK := hide hk
    have HX := hide hX
    have HI := hide hin
    clear ho hML hk hX hin hLn hn0
    go_enter Try.func18, Try.ntmps18
    go_wp2
    go_loopw [1, 5] (fun k i wr => ∃ (j : Nat) (N : List PR), j ≤ n ∧ i = .int .i64 j ∧ k = .int .i64 (kt c0 L j) ∧ Hid (∀ t, t < j → (N.getD t eV).1 = mkr c0 L t) ∧ Hid (∀ t, j ≤ t → t < n → N.getD t eV = M.getD t eV) ∧ Hid (∀ t, t < n → (N.getD t eV).2 = (M.getD t eV).2) ∧ OwR wr base (.slice (some ⟨g, 0, none⟩) n cap) n N ∧ L8.Only base hi w wr) (fun _ i _ => n - (intOf i).toNat)
    case atStart => exact ⟨0, M, Nat.zero_le _, rfl, rfl, fun t ht => absurd ht (Nat.not_lt_zero _), fun t _ _ => rfl, fun t _ => rfl, O.out, L8.Only.refl _ _ _⟩
    case round =>
      obtain ⟨j, N, hj, rfl, rfl, H1, H2, H3, hown, honly⟩ := hrel
      by_cases hlt : j < n
      · have hltI : (j : Int) < (n : Int) := by omega
        have hpos := kt_pos c0 hc0 L j
        have hkle := HK.out (j + 1) (by omega)
        have hkn : kt c0 L (j + 1) = kt c0 L j + 2 * ((gr L j).l.length : Int) + 4 := rfl
        have hxl := HX.out j hlt
        have hl := hown.len
        have hMj : (N.getD j eV) = M.getD j eV := H2.out j (Nat.le_refl _) hlt
        have hgc : (M.getD j eV).1 = gr L j := by
          have := rws_get M j (by rw [O.out.len]; exact hlt)
          rw [HML.out] at this
          exact this.symm
        obtain ⟨c, hc⟩ : ∃ c, c = kt c0 L j := ⟨_, rfl⟩
        obtain ⟨m, hm⟩ : ∃ m, m = (gr L j).l.length := ⟨_, rfl⟩
        rw [← hc]
        rw [← hc] at hpos hkn
        rw [hkn, ← hm] at hkle
        rw [← hm] at hxl
        obtain ⟨q, hq⟩ : ∃ q, q = N.getD j eV := ⟨_, rfl⟩
        -- the labels
        have hidx := hown.idx j hlt
        rw [← hq] at hidx
        rw [show q.1.l = (gr L j).l by rw [hq, hMj, hgc], ← hm] at hidx
        obtain ⟨ai, ci, hvi, _, _⟩ := own_formL hidx
        have hg0 := (flatR_get N j (by omega)).1
        rw [← hq] at hg0
        have hk0 := (hown.row.cellAt (j * 5) (by omega)).trans hg0
        rw [hvi] at hk0
        rw [hvi] at hidx
        have hbr := Nat.le_trans hbw honly.size
        have CX := hide (markLabelS_from base (.slice ai m ci) (gr L j).l m wr c (by omega) (by omega) (by omega) hidx hbr)
        have HOW := hide hown
        have HON := hide honly
        have HKN := hide hkn
        have HQ := hide hq
        have HMJ := hide hMj
        have HVI := hide hvi
        have HM := hide hm
        have HC := hide hc
        have HL := hide hl
        clear hkn hMj hgc hm hc hl hown honly hidx hg0 hvi hq hbr
        go_wp2_with fail
        refine CX.out.mono ?_
        rintro e w2 ⟨rfl, ho2, hb2, hg2⟩
        have P0 := HOW.out.setX j hlt (mkL c m) (by
          rw [← HQ.out]
          rw [HVI.out, mkL_len]
          exact ho2) (by
          rw [← HQ.out]
          rw [HVI.out]
          exact hg2)
        rw [← HQ.out] at P0
        have ON0 := HON.out.grown hg2 (fun q' hq' => by
          have e1 : (M.getD j eV).2.ownBlock = some q' := by rw [← HMJ.out, ← HQ.out, HVI.out]; exact hq'
          exact ⟨(L8.own_lt (O.out.idx j hlt) q' e1).1, HI.out.idx j hlt q' e1⟩)
        have hfl : ∀ K : List PR, K.length = n → (flatR K).length = n * 5 := fun K hK => by rw [flatR_len, hK]
        have P1 := P0.setI j hlt 1 (by omega) (.int .i64 (c + 2 * (m : Int))) ⟨mkL c m, c + 2 * (m : Int), q.1.v1, q.1.v2, q.1.v3⟩ (by rw [L8.getD_self N j _ _ (by rw [HL.out]; exact hlt)]; rfl) (by rw [L8.getD_self N j _ _ (by rw [HL.out]; exact hlt)])
        rw [L8.getD_self N j _ _ (by rw [HL.out]; exact hlt), L8.set_twice] at P1
        simp only at P1
        have fr0 := P0.row.frozenAt (j * 5 + 1)
        obtain ⟨z0, hz0⟩ : ∃ v, World.cell? (w2) ⟨g, j * 5 + 1, none⟩ = some v := ⟨_, (P0.row.cellAt (j * 5 + 1) (by omega)).trans (List.getElem?_eq_getElem (by rw [hfl _ P0.len]; omega))⟩
        have ON1 := ON0.grown P1.2 (fun q hq => by cases hq; exact hgr)
        have P2 := P1.1.setI j hlt 2 (by omega) (.int .i64 (c + 2 * (m : Int) + 1)) ⟨mkL c m, c + 2 * (m : Int), c + 2 * (m : Int) + 1, q.1.v2, q.1.v3⟩ (by rw [L8.getD_self N j _ _ (by rw [HL.out]; exact hlt)]; rfl) (by rw [L8.getD_self N j _ _ (by rw [HL.out]; exact hlt)])
        rw [L8.getD_self N j _ _ (by rw [HL.out]; exact hlt), L8.set_twice] at P2
        simp only at P2
        have fr1 := P1.1.row.frozenAt (j * 5 + 2)
        obtain ⟨z1, hz1⟩ : ∃ v, World.cell? (w2.setCell ⟨g, j * 5 + 1, none⟩ (.int .i64 (c + 2 * (m : Int)))) ⟨g, j * 5 + 2, none⟩ = some v := ⟨_, (P1.1.row.cellAt (j * 5 + 2) (by omega)).trans (List.getElem?_eq_getElem (by rw [hfl _ P1.1.len]; omega))⟩
        have ON2 := ON1.grown P2.2 (fun q hq => by cases hq; exact hgr)
        have P3 := P2.1.setI j hlt 3 (by omega) (.int .i64 (c + 2 * (m : Int) + 1 + 1)) ⟨mkL c m, c + 2 * (m : Int), c + 2 * (m : Int) + 1, c + 2 * (m : Int) + 1 + 1, q.1.v3⟩ (by rw [L8.getD_self N j _ _ (by rw [HL.out]; exact hlt)]; rfl) (by rw [L8.getD_self N j _ _ (by rw [HL.out]; exact hlt)])
        rw [L8.getD_self N j _ _ (by rw [HL.out]; exact hlt), L8.set_twice] at P3
        simp only at P3
        have fr2 := P2.1.row.frozenAt (j * 5 + 3)
        obtain ⟨z2, hz2⟩ : ∃ v, World.cell? ((w2.setCell ⟨g, j * 5 + 1, none⟩ (.int .i64 (c + 2 * (m : Int)))).setCell ⟨g, j * 5 + 2, none⟩ (.int .i64 (c + 2 * (m : Int) + 1))) ⟨g, j * 5 + 3, none⟩ = some v := ⟨_, (P2.1.row.cellAt (j * 5 + 3) (by omega)).trans (List.getElem?_eq_getElem (by rw [hfl _ P2.1.len]; omega))⟩
        have ON3 := ON2.grown P3.2 (fun q hq => by cases hq; exact hgr)
        have P4 := P3.1.setI j hlt 4 (by omega) (.int .i64 (c + 2 * (m : Int) + 1 + 1 + 1)) ⟨mkL c m, c + 2 * (m : Int), c + 2 * (m : Int) + 1, c + 2 * (m : Int) + 1 + 1, c + 2 * (m : Int) + 1 + 1 + 1⟩ (by rw [L8.getD_self N j _ _ (by rw [HL.out]; exact hlt)]; rfl) (by rw [L8.getD_self N j _ _ (by rw [HL.out]; exact hlt)])
        rw [L8.getD_self N j _ _ (by rw [HL.out]; exact hlt), L8.set_twice] at P4
        simp only at P4
        have fr3 := P3.1.row.frozenAt (j * 5 + 4)
        obtain ⟨z3, hz3⟩ : ∃ v, World.cell? (((w2.setCell ⟨g, j * 5 + 1, none⟩ (.int .i64 (c + 2 * (m : Int)))).setCell ⟨g, j * 5 + 2, none⟩ (.int .i64 (c + 2 * (m : Int) + 1))).setCell ⟨g, j * 5 + 3, none⟩ (.int .i64 (c + 2 * (m : Int) + 1 + 1))) ⟨g, j * 5 + 4, none⟩ = some v := ⟨_, (P3.1.row.cellAt (j * 5 + 4) (by omega)).trans (List.getElem?_eq_getElem (by rw [hfl _ P3.1.len]; omega))⟩
        have ON4 := ON3.grown P4.2 (fun q hq => by cases hq; exact hgr)
        have R : ∃ (j' : Nat) (N' : List PR), j' ≤ n ∧ Value.int .i64 ((j : Int) + 1) = .int .i64 j' ∧ Value.int .i64 (c + 2 * (m : Int) + 1 + 1 + 1 + 1) = .int .i64 (kt c0 L j') ∧ Hid (∀ t, t < j' → (N'.getD t eV).1 = mkr c0 L t) ∧ Hid (∀ t, j' ≤ t → t < n → N'.getD t eV = M.getD t eV) ∧ Hid (∀ t, t < n → (N'.getD t eV).2 = (M.getD t eV).2) ∧ OwR ((((w2.setCell ⟨g, j * 5 + 1, none⟩ (.int .i64 (c + 2 * (m : Int)))).setCell ⟨g, j * 5 + 2, none⟩ (.int .i64 (c + 2 * (m : Int) + 1))).setCell ⟨g, j * 5 + 3, none⟩ (.int .i64 (c + 2 * (m : Int) + 1 + 1))).setCell ⟨g, j * 5 + 4, none⟩ (.int .i64 (c + 2 * (m : Int) + 1 + 1 + 1))) base (.slice (some ⟨g, 0, none⟩) n cap) n N' ∧ L8.Only base hi w ((((w2.setCell ⟨g, j * 5 + 1, none⟩ (.int .i64 (c + 2 * (m : Int)))).setCell ⟨g, j * 5 + 2, none⟩ (.int .i64 (c + 2 * (m : Int) + 1))).setCell ⟨g, j * 5 + 3, none⟩ (.int .i64 (c + 2 * (m : Int) + 1 + 1))).setCell ⟨g, j * 5 + 4, none⟩ (.int .i64 (c + 2 * (m : Int) + 1 + 1 + 1))) := by
          refine ⟨j + 1, _, by omega, by simp, ?_, fun t ht => ?_, fun t h1 h2 => ?_, fun t ht => ?_, P4.1, ON4⟩
          · rw [HKN.out, ← HM.out]
            try (congr 1; omega)
          · by_cases e : t = j
            · subst e
              rw [L8.getD_self N t _ _ (by rw [HL.out]; exact hlt)]
              show (⟨mkL c m, c + 2 * (m : Int), c + 2 * (m : Int) + 1, c + 2 * (m : Int) + 1 + 1, c + 2 * (m : Int) + 1 + 1 + 1⟩ : Rw) = mkr c0 L t
              unfold mkr
              rw [← HC.out, ← HM.out]
              try (congr 1 <;> omega)
            · rw [L8.getD_ne N j t _ _ e]
              exact H1.out t (by omega)
          · rw [L8.getD_ne N j t _ _ (by omega)]
            exact H2.out t (by omega) h2
          · by_cases e : t = j
            · subst e
              rw [L8.getD_self N t _ _ (by rw [HL.out]; exact hlt)]
              show q.2 = _
              rw [HQ.out]
              exact H3.out t ht
            · rw [L8.getD_ne N j t _ _ e]
              exact H3.out t ht
        have HR := hide R
        clear R ON0 ho2 hb2 hg2 P0 hfl P1 ON1 P2 ON2 P3 ON3 P4 ON4
        go_wp2
        go_roundw
        case rel => exact HR.out
        case measure => simp [intOf]; omega
      · obtain rfl : j = n := by omega
        have hltI : ¬ (j : Int) < (j : Int) := by omega
        have E : rws N = mkrs c0 L := by
          refine list_sameR hown.len (by rw [mkrs_len]; exact HLN.out) (fun t ht => ?_)
          rw [mkrs_get c0 L t (by rw [HLN.out]; exact ht)]
          exact H1.out t ht
        obtain ⟨c, hc⟩ : ∃ c, c = kt c0 L j := ⟨_, rfl⟩
        rw [← hc]
        have HC := hide hc
        have HE := hide E
        have HO := hide hown
        have HON := hide honly
        clear E hown honly hc
        go_wp2
        go_ret
        exact ⟨by rw [← HC.out]; rfl, ⟨N, HE.out, HO.out⟩, HON.out⟩
end Go.Proofs.Ytohcjafklfemfam.L14T

namespace Go.Proofs.Ytohcjafklfemfam.L14T
open Go.RowKit L1 L3
set_option linter.unusedVariables false

theorem OwR_sl {w : World} {base n cap : Nat} {a : Option Addr} {M : List PR} {L : List Rw} (h : OwR w base (.slice a n cap) n M) (hM : rws M = L) : SlR w a L := by
  have := h.sl
  rw [hM] at this
  exact this
end Go.Proofs.Ytohcjafklfemfam.L14T

namespace Go.Proofs.Ytohcjafklfemfam.L1
open Go.RowKit
set_option linter.unusedVariables false

set_option maxRecDepth 100000 in
set_option maxHeartbeats 1000000 in
theorem eqIntS_same (a b : Option Addr) (xs : List Int) (n c1 c2 : Nat) (w : World) (hn : xs.length = n) (ha : Sl w a xs) (hb : Sl w b xs) (hn2 : n ≤ 1048576) :
    Calls Try.prog 23 #[.slice a n c1, .slice b n c2] w fun e w' => e = .returned (.bool true) ∧ Below w.heap.size w w' := by
  have HA := hide ha
  have HB := hide hb
  have HN := hide hn
  clear ha hb hn
  go_enter Try.func23, Try.ntmps23
  go_wp2
  go_loopw [5] (fun i wr => ∃ k : Nat, k ≤ n ∧ i = .int .i64 k ∧ Below w.heap.size w wr) (fun i _ => n - (intOf i).toNat)
  case atStart => exact ⟨0, Nat.zero_le _, rfl, Below.refl _ _⟩
  case round =>
    obtain ⟨k, hk, rfl, hbel⟩ := hrel
    by_cases hlt : k < n
    · obtain ⟨b1, o1, rfl, h1⟩ := HA.out k (by rw [HN.out]; exact hlt)
      obtain ⟨b2, o2, rfl, h2⟩ := HB.out k (by rw [HN.out]; exact hlt)
      have g1 : wr.cell? ⟨b1, o1 + k, none⟩ = some (.int .i64 (xs.getD k 0)) := by
        rw [hbel.cell (p := ⟨b1, o1 + k, none⟩) (blk_lt h1)]
        exact h1
      have g2 : wr.cell? ⟨b2, o2 + k, none⟩ = some (.int .i64 (xs.getD k 0)) := by
        rw [hbel.cell (p := ⟨b2, o2 + k, none⟩) (blk_lt h2)]
        exact h2
      obtain ⟨x, hx⟩ : ∃ x, x = xs.getD k 0 := ⟨_, rfl⟩
      rw [← hx] at g1 g2
      have hltI : (k : Int) < (n : Int) := by omega
      clear h1 h2 hx
      go_wp2
      go_quiet (fail)
      go_wp2
      go_roundw
      case rel => exact ⟨k + 1, by omega, by go_num, below_drewN hbel _⟩
      case measure => simp [intOf]; omega
    · have hltI : ¬ (k : Int) < (n : Int) := by omega
      go_wp2
      go_ret
      exact ⟨rfl, hbel⟩
end Go.Proofs.Ytohcjafklfemfam.L1

namespace Go.Proofs.Ytohcjafklfemfam.L1

theorem gvf_some : ∀ (f : Nat) (pre t l : List Int), gvf f pre t = some l → ∃ m, 1 ≤ m ∧ m ≤ t.length ∧ l = pre ++ t.take m
  | 0, _, _, _, h => by simp [gvf] at h
  | _ + 1, _, [], _, h => by simp [gvf] at h
  | f + 1, pre, x :: r, l, h => by
    simp only [gvf] at h
    split at h
    · obtain ⟨m, h1, h2, h3⟩ := gvf_some f (pre ++ [x]) r l h
      refine ⟨m + 1, by omega, by simp; omega, ?_⟩
      rw [h3]
      simp
    · split at h
      · simp only [Option.some.injEq] at h
        exact ⟨1, by omega, by simp, by rw [← h]; simp⟩
      · simp at h
theorem gv_some {t l : List Int} (h : gv t = some l) : 1 ≤ l.length ∧ l.length ≤ t.length := by
  obtain ⟨m, h1, h2, h3⟩ := gvf_some 6 [] t l h
  rw [h3]
  simp
  omega

/-- All numbers of a text. -/
def ga : Nat → List Int → Option (List Int)
  | _, [] => some []
  | 0, _ :: _ => none
  | f + 1, x :: r => match gv (x :: r) with
    | none => none
    | some l => (ga f ((x :: r).drop l.length)).map fun o => zag (val l) :: o

theorem ga_fuel : ∀ (n : Nat) (t : List Int) (f g : Nat), t.length ≤ n → t.length ≤ f → t.length ≤ g → ga f t = ga g t
  | _, [], f, g, _, _, _ => by cases f <;> cases g <;> rfl
  | 0, x :: r, _, _, h, _, _ => by simp at h
  | n + 1, x :: r, f, g, h, hf, hg => by
    obtain ⟨f, rfl⟩ : ∃ j, f = j + 1 := ⟨f - 1, by simp at hf; omega⟩
    obtain ⟨g, rfl⟩ : ∃ j, g = j + 1 := ⟨g - 1, by simp at hg; omega⟩
    simp only [ga]
    cases hv : gv (x :: r) with
    | none => rfl
    | some l =>
      have hl := gv_some hv
      have e := ga_fuel n ((x :: r).drop l.length) f g (by simp at *; omega) (by simp at *; omega) (by simp at *; omega)
      simp only [e]

def gall (t : List Int) : Option (List Int) := ga t.length t
theorem gall_nil : gall [] = some [] := rfl
theorem gall_none {t : List Int} (h0 : 0 < t.length) (h : gv t = none) : gall t = none := by
  cases t with
  | nil => simp at h0
  | cons x r => simp only [gall, List.length_cons, ga, h]
theorem gall_some {t l : List Int} (h0 : 0 < t.length) (h : gv t = some l) : gall t = (gall (t.drop l.length)).map fun o => zag (val l) :: o := by
  cases t with
  | nil => simp at h0
  | cons x r =>
    have hl := gv_some h
    simp only [gall, List.length_cons, ga, h]
    rw [ga_fuel (r.length + 1) ((x :: r).drop l.length) r.length ((x :: r).drop l.length).length (by simp) (by simp at *; omega) (by simp)]

/-- What is read so far, and what is still to be read. -/
theorem gall_step {A : Option (List Int)} {xs t l : List Int} (h0 : 0 < t.length) (h : gv t = some l) (hA : A = (gall t).map fun o => xs ++ o) :
    A = (gall (t.drop l.length)).map fun o => (xs ++ [zag (val l)]) ++ o := by
  rw [hA, gall_some h0 h]
  cases gall (t.drop l.length) <;> simp
theorem gall_stop {A : Option (List Int)} {xs t : List Int} (h0 : 0 < t.length) (h : gv t = none) (hA : A = (gall t).map fun o => xs ++ o) : A = none := by
  rw [hA, gall_none h0 h]
  rfl
theorem gall_over {A : Option (List Int)} {xs t : List Int} (hA : A = (gall t).map fun o => xs ++ o) {ys : List Int} (h : A = some ys) : xs.length ≤ ys.length := by
  rw [hA] at h
  cases hg : gall t with
  | none => rw [hg] at h; simp at h
  | some o =>
    rw [hg] at h
    simp at h
    rw [← h]
    simp

/-- The numbers of a text that are at most 60. -/
def gaRes (t : List Int) : Option (List Int) := if t.length ≤ 600 then (gall t).bind (fun xs => if xs.length ≤ 60 then some xs else none) else none
def marks (k : Int) (n : Nat) : List Int := (List.range n).map fun i : Nat => k + (i : Int)
theorem marks_len (k : Int) (n : Nat) : (marks k n).length = n := by simp [marks]
theorem marks_get (k : Int) (n j : Nat) (h : j < n) : (marks k n).getD j 0 = k + (j : Int) := by
  simp [marks, List.getD, h]
end Go.Proofs.Ytohcjafklfemfam.L1

namespace Go.Proofs.Ytohcjafklfemfam.L1
open Go.RowKit
set_option linter.unusedVariables false

set_option maxRecDepth 100000 in
set_option maxHeartbeats 1000000 in
theorem markIntS_all (base : Nat) (v : Value) (xs : List Int) (n : Nat) (w : World) (hn2 : n ≤ 1048576) (ho : w.ownsRow base 3 1 v n (xs.map (Value.int .i64))) :
    Calls Try.prog 24 #[v, .int .i64 1] w fun e w' => e = .returned (.int .i64 (1 + (n : Int))) ∧ w'.ownsRow base 3 1 v n ((marks 1 n).map (Value.int .i64)) ∧ Below base w w' ∧ w.grownBy w' v.ownBlock := by
  have hl0 := ho.1
  simp at hl0
  by_cases hn0 : n = 0
  · subst hn0
    obtain ⟨a, cap, rfl, _, hl⟩ := own_form ho
    have hx : xs = [] := List.eq_nil_of_length_eq_zero hl
    subst hx
    have HO := hide ho
    clear ho hl hl0
    go_enter Try.func24, Try.ntmps24
    go_wp2
    go_loop [1, 5] (fun k i => k = .int .i64 1 ∧ i = .int .i64 0) (fun _ _ => 0)
    case atStart => exact ⟨rfl, rfl⟩
    case round =>
      obtain ⟨rfl, rfl⟩ := hrel
      go_wp2
      go_ret
      exact ⟨rfl, HO.out, Below.refl _ _, World.grownBy.refl _ _⟩
  · obtain ⟨g, cap, rfl⟩ : ∃ g cap, v = .slice (some ⟨g, 0, none⟩) n cap := by
      rcases ho.2 with ⟨_, h0⟩ | ⟨g, cap, cur, hv, _⟩
      · omega
      · exact ⟨g, cap, hv⟩
    have hge := own_ge ho
    have HO := hide ho
    have HL := hide hl0
    clear ho hl0 hn0
    go_enter Try.func24, Try.ntmps24
    go_wp2
    go_loopw [1, 5] (fun k i wr => ∃ (j : Nat) (ys : List Int), j ≤ n ∧ i = .int .i64 j ∧ k = .int .i64 (1 + (j : Int)) ∧ ys.length = n ∧ Hid (∀ t, t < j → ys.getD t 0 = (marks 1 n).getD t 0) ∧
        wr.ownsRow base 3 1 (.slice (some ⟨g, 0, none⟩) n cap) n (ys.map (Value.int .i64)) ∧ Below base w wr ∧ w.grownBy wr (some g)) (fun _ i _ => n - (intOf i).toNat)
    case atStart => exact ⟨0, xs, by omega, rfl, rfl, HL.out, fun t ht => absurd ht (Nat.not_lt_zero _), HO.out, Below.refl _ _, World.grownBy.refl _ _⟩
    case round =>
      obtain ⟨j, ys, hj, rfl, rfl, hyl, HY, hown, hbel, hgr⟩ := hrel
      by_cases hlt : j < n
      · have hltI : (j : Int) < (n : Int) := by omega
        have hcl := hown.cellAt j (by omega)
        have hfr := hown.frozenAt j
        obtain ⟨u, hu⟩ : ∃ u, wr.cell? ⟨g, j, none⟩ = some u := ⟨_, hcl.trans (List.getElem?_eq_getElem (by simp; omega))⟩
        have hst := hown.stored j (.int .i64 (1 + (j : Int)))
        have R : ∃ (j' : Nat) (ys' : List Int), j' ≤ n ∧ Value.int .i64 ((j : Int) + 1) = .int .i64 j' ∧ Value.int .i64 (1 + (j : Int) + 1) = .int .i64 (1 + (j' : Int)) ∧ ys'.length = n ∧ Hid (∀ t, t < j' → ys'.getD t 0 = (marks 1 n).getD t 0) ∧
            (wr.setCell ⟨g, j, none⟩ (.int .i64 (1 + (j : Int)))).ownsRow base 3 1 (.slice (some ⟨g, 0, none⟩) n cap) n (ys'.map (Value.int .i64)) ∧ Below base w (wr.setCell ⟨g, j, none⟩ (.int .i64 (1 + (j : Int)))) ∧ w.grownBy (wr.setCell ⟨g, j, none⟩ (.int .i64 (1 + (j : Int)))) (some g) := by
          refine ⟨j + 1, ys.set j (1 + (j : Int)), by omega, by simp, by simp; omega, by simpa using hyl, ?_, by rw [List.map_set]; exact hst.1, hbel.setCell (p := ⟨g, j, none⟩) hge _, hgr.trans hst.2⟩
          intro t ht
          by_cases e : t = j
          · subst e
            rw [marks_get 1 n t (by omega)]
            simp [List.getD, hyl, hlt]
          · rw [← HY.out t (by omega)]
            simp [List.getD, Ne.symm e]
        have HR := hide R
        clear hcl hst R hyl
        go_wp2
        go_roundw
        case rel => exact HR.out
        case measure => simp [intOf]; omega
      · obtain rfl : j = n := by omega
        have e : ys = marks 1 j := list_same (marks_len 1 j) hyl (fun t ht => HY.out t ht)
        subst e
        have hltI : ¬ (j : Int) < (j : Int) := by omega
        clear hyl
        go_wp2
        go_ret
        exact ⟨rfl, hown, hbel, hgr⟩

theorem markIntS_any (base : Nat) (v : Value) (xs : List Int) (n : Nat) (w : World) (hn2 : n ≤ 1048576) (ho : w.ownsRow base 3 1 v n (xs.map (Value.int .i64))) :
    Calls Try.prog 24 #[v, .int .i64 1] w fun e w' => e = .returned (.int .i64 (1 + (n : Int))) ∧ w'.ownsRow base 3 1 v n ((marks 1 n).map (Value.int .i64)) ∧ Below base w w' :=
  (markIntS_all base v xs n w hn2 ho).mono fun e w' h => ⟨h.1, h.2.1, h.2.2.1⟩

set_option maxRecDepth 100000 in
set_option maxHeartbeats 1000000 in
theorem heldIntS_any (a : Option Addr) (n cap : Nat) (w : World) (hn2 : n ≤ 1048576) (hs : Sl w a (marks 1 n)) :
    Calls Try.prog 25 #[.slice a n cap, .int .i64 1] w fun e w' => e = .returned (.int .i64 (1 + (n : Int))) ∧ Below w.heap.size w w' := by
  have HS := hide hs
  clear hs
  go_enter Try.func25, Try.ntmps25
  go_wp2
  go_loop [1, 5] (fun k i => ∃ j : Nat, j ≤ n ∧ i = .int .i64 j ∧ k = .int .i64 (1 + (j : Int))) (fun _ i => n - (intOf i).toNat)
  case atStart => exact ⟨0, by omega, rfl, rfl⟩
  case round =>
    obtain ⟨j, hj, rfl, rfl⟩ := hrel
    by_cases hlt : j < n
    · obtain ⟨b, off, rfl, hc⟩ := HS.out j (by rw [marks_len]; exact hlt)
      rw [marks_get 1 n j hlt] at hc
      have hltI : (j : Int) < (n : Int) := by omega
      go_wp2
      go_round
      case rel => exact ⟨j + 1, by omega, by go_num, by go_num⟩
      case measure => simp [intOf]; omega
    · have hltI : ¬ (j : Int) < (n : Int) := by omega
      obtain rfl : j = n := by omega
      go_wp2
      go_ret
      exact ⟨rfl, Below.refl _ _⟩
end Go.Proofs.Ytohcjafklfemfam.L1

namespace Go.Proofs.Ytohcjafklfemfam.fnExactTopOf
open Go.RowKit L1 L3 L14T
set_option linter.unusedVariables false

open Classical in
set_option maxRecDepth 100000 in
set_option maxHeartbeats 8000000 in
theorem walk (a0 : Option Addr) (len0 cap0 : Nat) (z0 : List L14T.Rw) (a1 : Int) (a2 : Int) (w : World) (w0 : L14T.IsRowR w a0 len0 z0) (w1 : (Lit.int .i64 a1).wf = true) (w2 : (Lit.int .i64 a2).wf = true) :
    Calls Try.prog 6 #[.slice a0 len0 cap0, .int .i64 a1, .int .i64 a2] w fun e w' => e = .returned (.bool true) ∧ Below w.heap.size w w' := by
  obtain ⟨⟨hn0, hm0, hs0⟩, hst0⟩ := w0
  have HS0 := hide hs0
  have HN0 := hide hn0
  have HST0 := hide hst0
  unfold maxLen at hm0
  clear hs0 hn0 hst0
  clear w1
  clear w2
  by_cases hwt0 : (L14T.wtR z0 : Int) ≤ 1048576
  case neg =>
    have C00 := hide (fun w hs => L14T.szTotalS_any a0 z0 len0 cap0 1048576 w HN0.out (by omega) hs HST0.out (by omega) (by omega) _ (if_neg hwt0).symm)
    clear hwt0
    go_enter Try.func6, Try.ntmps6
    go_wp2_with fail
    refine (C00.out _ HS0.out).mono ?_
    rintro e wz0 ⟨rfl, hbz⟩
    have BZ0 := hide hbz
    clear hbz
    go_wp2
    go_ret
    exact ⟨rfl, BZ0.out⟩
  have hsz0 : len0 ≤ 1048576 := by unfold L14T.wtR at hwt0; rw [HN0.out] at hwt0; omega
  have HX0 : Hid (∀ i, i < len0 → (L14T.gr z0 i).l.length ≤ 1048576) := fun j hj => (L14T.wtR_lab z0 j (by rw [HN0.out]; exact hj) (by omega)).1
  have HXL0 : Hid (∀ j, j < z0.length → (L14T.gr z0 j).l.length ≤ 1048576) := fun j hj => HX0.out j (by rw [← HN0.out]; exact hj)
  have C00 := hide (fun w hs => L14T.szTotalS_any a0 z0 len0 cap0 1048576 w HN0.out (by omega) hs HST0.out (by omega) (by omega) _ (if_pos hwt0).symm)
  obtain ⟨lf0, hlf0⟩ : ∃ lf, lf = 1048576 - (L14T.wtR z0 : Int) := ⟨_, rfl⟩
  rw [← hlf0] at C00
  have hk0 : ¬ lf0 < 0 := by omega
  have hu0 : lf0 ≤ 1048576 := by omega
  have hkf0 : ∀ i, i ≤ len0 → L14T.kt (1) z0 i ≤ 1073741824 := fun j hj => by have := L14T.kt_le (1) z0 j (by rw [HN0.out]; exact hj); omega
  obtain ⟨K0, hK0⟩ : ∃ K, K = L14T.kt (1) z0 len0 := ⟨_, rfl⟩
  have hKp0 : 0 < K0 ∧ K0 ≤ 1 + 4 * 1048576 := ⟨by rw [hK0]; exact L14T.kt_pos _ (by omega) z0 len0, by rw [hK0]; have := L14T.kt_le (1) z0 len0 (by rw [HN0.out]; exact Nat.le_refl _); omega⟩
  have hKend : ¬ K0 < 0 := by omega
  have CM0 := hide (fun base hi v M wx hML hin ho hb => L14T.markTotalS_any (1) (by omega) base hi v len0 M z0 wx hML hsz0 hkf0 HX0.out hin ho hb)
  rw [← hK0] at CM0
  obtain ⟨r, hr⟩ : ∃ r, r = SrtI.topRes z0 a1 a2 := ⟨_, rfl⟩
  have c1 := fun a cap w hs => SrtI.specTopOf_any a z0 len0 cap a1 a2 w HN0.out hsz0 hs HST0.out HXL0.out r hr
  have c2 := fun a cap w hs => SrtI.implTopOf_any a z0 len0 cap a1 a2 w HN0.out hsz0 hs HST0.out HXL0.out r hr
  have hle := SrtI.topRes_len z0 a1 a2
  rw [← hr] at hle
  obtain ⟨ys, hy⟩ : ∃ ys, ys = r.getD [] := ⟨_, rfl⟩
  obtain ⟨m, hmm⟩ : ∃ m, m = ys.length := ⟨_, rfl⟩
  obtain ⟨ok, hok⟩ : ∃ ok, ok = r.isSome := ⟨_, rfl⟩
  simp only [RetI, ← hy, ← hmm, ← hok] at c1 c2
  rw [← hy, ← hmm] at hle
  have hm2 : m ≤ 1048576 := by omega
  have hq1 : ¬ (1 + (m : Int)) < 0 := by omega
  have hqq : ((1 + (m : Int)) != (1 + (m : Int))) = false := by simp
  have hoo : (ok != ok) = false := by simp
  have C1 := hide c1
  have C2 := hide c2
  have HM := hide hmm.symm
  clear c1 c2 hr hy hmm hok
  clear hlf0 hwt0 hK0 hm0 hu0 hkf0
  go_enter Try.func6, Try.ntmps6
  go_wp2_with fail
  refine (C00.out _ HS0.out).mono ?_
  rintro e wz0 ⟨rfl, hbz⟩
  have BZ0 := hide hbz
  clear hbz
  have FIN : Hid (∀ w' : World, Below wz0.heap.size wz0 w' → Below w.heap.size w w') := fun w' h => BZ0.out.trans (h.mono BZ0.out.size)
  have HSZ0 := hide (HS0.out.below BZ0.out)
  clear HS0 BZ0
  have HS0 := HSZ0
  clear HSZ0
  obtain ⟨wo, hwo⟩ : ∃ wo, wo = w := ⟨_, rfl⟩
  have HFIN := FIN
  clear FIN hwo wo
  go_wp2_with fail
  refine (L14T.toTotalS_any a0 z0 len0 cap0 _ HN0.out HS0.out hsz0 HX0.out).mono ?_
  rintro e w1 ⟨rfl, ⟨MP0, hM, ho⟩, hb⟩
  have Z1 := hide hb.size
  have B_1 := hide hb
  clear hb 
  have P0_1 := hide ho.sl
  rw [hM] at P0_1
  clear ho hM
  go_wp2_with fail
  refine (C1.out _ _   _ P0_1.out).mono ?_
  rintro e w2 ⟨vW, rfl, hoW, hb⟩
  clear P0_1
  obtain ⟨aW, cW, rfl⟩ := L14T.own_shapeV hoW
  have Z2 := hide hb.size
  have B_2 := hide (B_1.out.trans (hb.mono B_1.out.size))
  clear hb B_1
  have SW := hide (L4.own_slI hoW)
  clear hoW
  have LW_2 := hide (Below.refl w2.heap.size w2)
  go_wp2_with fail
  refine (L14T.toTotalS_any a0 z0 len0 cap0 _ HN0.out (HS0.out.below B_2.out) hsz0 HX0.out).mono ?_
  rintro e w3 ⟨rfl, ⟨MX0, hM, ho⟩, hb⟩
  have Z3 := hide hb.size
  have B_3 := hide (B_2.out.trans (hb.mono B_2.out.size))
  have LW_3 := hide (LW_2.out.trans (hb.mono LW_2.out.size))
  clear hb B_2 LW_2
  have X0_3 := hide ho
  have IX0 := hide ho.inR
  have MX0_eq := hide hM
  clear ho hM
  go_wp2_with fail
  refine (C2.out _ _   _ (L14T.OwR_sl X0_3.out MX0_eq.out)).mono ?_
  rintro e w4 ⟨vG, rfl, ho, hb⟩
  obtain ⟨aG, cG, rfl⟩ := L14T.own_shapeV ho
  have Z4 := hide hb.size
  have X0_4 := hide (X0_3.out.below hb)
  have B_4 := hide (B_3.out.trans (hb.mono B_3.out.size))
  have LW_4 := hide (LW_3.out.trans (hb.mono LW_3.out.size))
  clear hb X0_3 B_3 LW_3
  have G_4 := hide ho
  clear ho
  go_wp2_with fail
  refine (eqIntS_same _ _ ys m _ _ _ HM.out (L4.own_slI G_4.out) (SW.out.below LW_4.out) hm2).mono ?_
  rintro e w5 ⟨rfl, hb⟩
  have Z5 := hide hb.size
  have X0_5 := hide (X0_4.out.below hb)
  have G_5 := hide (L14T.own_belowR G_4.out hb)
  have B_5 := hide (B_4.out.trans (hb.mono B_4.out.size))
  have LW_5 := hide (LW_4.out.trans (hb.mono LW_4.out.size))
  clear hb X0_4 G_4 B_4 LW_4
  go_wp2_with fail
  refine (L14T.toTotalS_any a0 z0 len0 cap0 _ HN0.out (HS0.out.below B_5.out) hsz0 HX0.out).mono ?_
  rintro e w6 ⟨rfl, ⟨MS, hM, ho⟩, hb⟩
  have Z6 := hide hb.size
  have X0_6 := hide (X0_5.out.below hb)
  have G_6 := hide (L14T.own_belowR G_5.out hb)
  have B_6 := hide (B_5.out.trans (hb.mono B_5.out.size))
  have LW_6 := hide (LW_5.out.trans (hb.mono LW_5.out.size))
  clear hb X0_5 G_5 B_5 LW_5
  have S_6 := hide ho.sl
  rw [hM] at S_6
  clear ho hM
  go_wp2_with fail
  refine (L14T.eqTotalS_same _ _ z0 len0 _ _ _ HN0.out (L14T.OwR_sl X0_6.out MX0_eq.out) S_6.out hsz0 HX0.out).mono ?_
  rintro e w7 ⟨rfl, hb⟩
  clear S_6
  have Z7 := hide hb.size
  have X0_7 := hide (X0_6.out.below hb)
  have G_7 := hide (L14T.own_belowR G_6.out hb)
  have B_7 := hide (B_6.out.trans (hb.mono B_6.out.size))
  have LW_7 := hide (LW_6.out.trans (hb.mono LW_6.out.size))
  clear hb X0_6 G_6 B_6 LW_6
  have hbw : w2.heap.size ≤ w7.heap.size := by have := Z1.out; have := Z2.out; have := Z3.out; have := Z4.out; have := Z5.out; have := Z6.out; have := Z7.out; omega
  go_wp2_with fail
  refine (CM0.out w2.heap.size w3.heap.size _ _ _ MX0_eq.out IX0.out X0_7.out hbw).mono ?_
  rintro e w8 ⟨rfl, _, hon⟩
  clear hbw
  have hlb : w2.heap.size ≤ w7.heap.size := by have := Z1.out; have := Z2.out; have := Z3.out; have := Z4.out; have := Z5.out; have := Z6.out; have := Z7.out; omega
  have hwb : wz0.heap.size ≤ w2.heap.size := by have := Z1.out; have := Z2.out; have := Z3.out; have := Z4.out; have := Z5.out; have := Z6.out; have := Z7.out; omega
  have hWb : w2.heap.size ≤ w2.heap.size := by have := Z1.out; have := Z2.out; have := Z3.out; have := Z4.out; have := Z5.out; have := Z6.out; have := Z7.out; omega
  have G_8 := hide (hon.row G_7.out (by have := Z1.out; have := Z2.out; have := Z3.out; have := Z4.out; have := Z5.out; have := Z6.out; have := Z7.out; omega))
  have Z8 := hide hon.size
  have B_8 := hide (B_7.out.trans ((hon.below hlb).mono hwb))
  have LW_8 := hide (LW_7.out.trans ((hon.below hlb).mono hWb))
  clear hon hlb hwb hWb X0_7 G_7 B_7 LW_7
  go_wp2_with fail
  refine (eqIntS_same _ _ ys m _ _ _ HM.out (L4.own_slI G_8.out) (SW.out.below LW_8.out) hm2).mono ?_
  rintro e w9 ⟨rfl, hb⟩
  have Z9 := hide hb.size
  have G_9 := hide (L14T.own_belowR G_8.out hb)
  have B_9 := hide (B_8.out.trans (hb.mono B_8.out.size))
  have LW_9 := hide (LW_8.out.trans (hb.mono LW_8.out.size))
  clear hb G_8 B_8 LW_8
  go_wp2_with fail
  refine (markIntS_all w3.heap.size _ ys m _ hm2 G_9.out).mono ?_
  rintro e w10 ⟨rfl, ho, hb, hg⟩
  have hwb : wz0.heap.size ≤ w3.heap.size := by have := Z1.out; have := Z2.out; have := Z3.out; have := Z4.out; have := Z5.out; have := Z6.out; have := Z7.out; have := Z8.out; have := Z9.out; omega
  have hWb : w2.heap.size ≤ w3.heap.size := by have := Z1.out; have := Z2.out; have := Z3.out; have := Z4.out; have := Z5.out; have := Z6.out; have := Z7.out; have := Z8.out; have := Z9.out; omega
  have B_10 := hide (B_9.out.trans (hb.mono hwb))
  have LW_10 := hide (LW_9.out.trans (hb.mono hWb))
  have Z10 := hide hb.size
  have G_10 := hide ho
  clear ho hb hg hwb hWb B_9 LW_9 G_9
  go_wp2_with fail
  refine (heldIntS_any _ m _ _ hm2 (L4.own_slI G_10.out)).mono ?_
  rintro e w11 ⟨rfl, hb⟩
  have Z11 := hide hb.size
  have G_11 := hide (L14T.own_belowR G_10.out hb)
  have B_11 := hide (B_10.out.trans (hb.mono B_10.out.size))
  have LW_11 := hide (LW_10.out.trans (hb.mono LW_10.out.size))
  clear hb G_10 B_10 LW_10
  go_wp2_with fail
  refine (L14T.toTotalS_any a0 z0 len0 cap0 _ HN0.out (HS0.out.below B_11.out) hsz0 HX0.out).mono ?_
  rintro e w12 ⟨rfl, ⟨MP0, hM, ho⟩, hb⟩
  have Z12 := hide hb.size
  have G_12 := hide (L14T.own_belowR G_11.out hb)
  have B_12 := hide (B_11.out.trans (hb.mono B_11.out.size))
  have LW_12 := hide (LW_11.out.trans (hb.mono LW_11.out.size))
  clear hb G_11 B_11 LW_11
  have P0_12 := hide ho.sl
  rw [hM] at P0_12
  clear ho hM
  go_wp2_with fail
  refine (C2.out _ _   _ P0_12.out).mono ?_
  rintro e w13 ⟨vH, rfl, ho, hb⟩
  clear P0_12
  obtain ⟨aH, cH, rfl⟩ := L14T.own_shapeV ho
  have Z13 := hide hb.size
  have G_13 := hide (L14T.own_belowR G_12.out hb)
  have B_13 := hide (B_12.out.trans (hb.mono B_12.out.size))
  have LW_13 := hide (LW_12.out.trans (hb.mono LW_12.out.size))
  clear hb G_12 B_12 LW_12
  have SH := hide (L4.own_slI ho)
  clear ho
  go_wp2_with fail
  refine (eqIntS_same _ _ ys m _ _ _ HM.out SH.out (SW.out.below LW_13.out) hm2).mono ?_
  rintro e w14 ⟨rfl, hb⟩
  have Z14 := hide hb.size
  have G_14 := hide (L14T.own_belowR G_13.out hb)
  have B_14 := hide (B_13.out.trans (hb.mono B_13.out.size))
  have LW_14 := hide (LW_13.out.trans (hb.mono LW_13.out.size))
  clear hb G_13 B_13 LW_13
  clear SH
  go_wp2_with fail
  refine (heldIntS_any _ m _ _ hm2 (L4.own_slI G_14.out)).mono ?_
  rintro e w15 ⟨rfl, hb⟩
  have Z15 := hide hb.size
  have G_15 := hide (L14T.own_belowR G_14.out hb)
  have B_15 := hide (B_14.out.trans (hb.mono B_14.out.size))
  have LW_15 := hide (LW_14.out.trans (hb.mono LW_14.out.size))
  clear hb G_14 B_14 LW_14
  go_wp2
  go_ret
  exact ⟨rfl, HFIN.out _ B_15.out⟩
end Go.Proofs.Ytohcjafklfemfam.fnExactTopOf
