/-
  Contract of the laws' own helper markIntS from whatever number on.
  A row of bytes as a text. Nothing of the program's text is proved here but closed facts on its types.
  Contract of the laws' own helper markText: the same text of a number each time.
  Contracts of the laws' own helpers: laws.markPieceS and laws.markLog write into a log that lies in memory of its own, and into nothing else; laws.heldPieceS and laws.heldLog find it there.
  Contract: impl.copyLog.
  What the functions over a log answer.
  The mathematics of CutFrom: where a log is cut, and what stands there then. Nothing of the program's text is proved here.
  Contract: impl.shorten: the first pieces of a row that is the call's own; those behind them are cleared.
-/
import Derived.Test.YtapffbbmofhpobaDoorBundle3
import Derived.Test.YtapffbbmofhpobaDoorBundle1
import Derived.Test.YtapffbbmofhpobaDoorBundle2
namespace Go.Proofs.YtapffbbmofhpobaDoor.L4
open Go.RowKit L1
set_option linter.unusedVariables false

def mkC (c : Int) (n : Nat) : List Int := (List.range n).map fun i : Nat => c + (i : Int)
theorem mkC_len (c : Int) (n : Nat) : (mkC c n).length = n := by simp [mkC]
theorem mkC_get (c : Int) (n j : Nat) (h : j < n) : (mkC c n).getD j 0 = c + (j : Int) := by simp [mkC, List.getD, h]

set_option maxRecDepth 100000 in
set_option maxHeartbeats 1000000 in
theorem markIntS_from (base : Nat) (v : Value) (xs : List Int) (n : Nat) (w : World) (c : Int) (hc0 : 0 ≤ c) (hc1 : c ≤ 4294967296) (hn2 : n ≤ 1048576) (ho : w.ownsRow base 3 1 v n (xs.map (Value.int .i64))) :
    Calls Tryd.prog 43 #[v, .int .i64 c] w fun e w' => e = .returned (.int .i64 (c + (n : Int))) ∧ w'.ownsRow base 3 1 v n ((mkC c n).map (Value.int .i64)) ∧ Below base w w' ∧ w.grownBy w' v.ownBlock := by
  have hl0 := ho.1
  simp at hl0
  by_cases hn0 : n = 0
  · subst hn0
    obtain ⟨a, cap, rfl, _, hl⟩ := own_form ho
    have hx : xs = [] := List.eq_nil_of_length_eq_zero hl
    subst hx
    have HO := hide ho
    clear ho hl hl0
    go_enter Tryd.func43, Tryd.ntmps43
    go_wp2
    go_loop [1, 5] (fun k i => k = .int .i64 c ∧ i = .int .i64 0) (fun _ _ => 0)
    case atStart => exact ⟨rfl, rfl⟩
    case round =>
      obtain ⟨rfl, rfl⟩ := hrel
      go_wp2
      go_ret
      exact ⟨by simp, HO.out, Below.refl _ _, World.grownBy.refl _ _⟩
  · obtain ⟨g, cap, rfl⟩ : ∃ g cap, v = .slice (some ⟨g, 0, none⟩) n cap := by
      rcases ho.2 with ⟨_, h0⟩ | ⟨g, cap, cur, hv, _⟩
      · omega
      · exact ⟨g, cap, hv⟩
    have hge := own_ge ho
    have HO := hide ho
    have HL := hide hl0
    clear ho hl0 hn0
    go_enter Tryd.func43, Tryd.ntmps43
    go_wp2
    go_loopw [1, 5] (fun k i wr => ∃ (j : Nat) (ys : List Int), j ≤ n ∧ i = .int .i64 j ∧ k = .int .i64 (c + (j : Int)) ∧ ys.length = n ∧ Hid (∀ t, t < j → ys.getD t 0 = (mkC c n).getD t 0) ∧
        wr.ownsRow base 3 1 (.slice (some ⟨g, 0, none⟩) n cap) n (ys.map (Value.int .i64)) ∧ Below base w wr ∧ w.grownBy wr (some g)) (fun _ i _ => n - (intOf i).toNat)
    case atStart => exact ⟨0, xs, by omega, rfl, by simp, HL.out, fun t ht => absurd ht (Nat.not_lt_zero _), HO.out, Below.refl _ _, World.grownBy.refl _ _⟩
    case round =>
      obtain ⟨j, ys, hj, rfl, rfl, hyl, HY, hown, hbel, hgr⟩ := hrel
      by_cases hlt : j < n
      · have hltI : (j : Int) < (n : Int) := by omega
        have hcl := hown.cellAt j (by omega)
        have hfr := hown.frozenAt j
        obtain ⟨u, hu⟩ : ∃ u, wr.cell? ⟨g, j, none⟩ = some u := ⟨_, hcl.trans (List.getElem?_eq_getElem (by simp; omega))⟩
        have hst := hown.stored j (.int .i64 (c + (j : Int)))
        have R : ∃ (j' : Nat) (ys' : List Int), j' ≤ n ∧ Value.int .i64 ((j : Int) + 1) = .int .i64 j' ∧ Value.int .i64 (c + (j : Int) + 1) = .int .i64 (c + (j' : Int)) ∧ ys'.length = n ∧ Hid (∀ t, t < j' → ys'.getD t 0 = (mkC c n).getD t 0) ∧
            (wr.setCell ⟨g, j, none⟩ (.int .i64 (c + (j : Int)))).ownsRow base 3 1 (.slice (some ⟨g, 0, none⟩) n cap) n (ys'.map (Value.int .i64)) ∧ Below base w (wr.setCell ⟨g, j, none⟩ (.int .i64 (c + (j : Int)))) ∧ w.grownBy (wr.setCell ⟨g, j, none⟩ (.int .i64 (c + (j : Int)))) (some g) := by
          refine ⟨j + 1, ys.set j (c + (j : Int)), by omega, by simp, by simp; omega, by simpa using hyl, ?_, by rw [List.map_set]; exact hst.1, hbel.setCell (p := ⟨g, j, none⟩) hge _, hgr.trans hst.2⟩
          intro t ht
          by_cases e : t = j
          · subst e
            rw [mkC_get c n t (by omega)]
            simp [List.getD, hyl, hlt]
          · rw [← HY.out t (by omega)]
            simp [List.getD, Ne.symm e]
        have HR := hide R
        clear hcl hst R hyl
        go_wp2
        go_roundw
        case rel => exact HR.out
        case measure => simp [intOf]; omega
      · obtain rfl : j = n := by omega
        have e : ys = mkC c j := list_same (mkC_len c j) hyl (fun t ht => HY.out t ht)
        subst e
        have hltI : ¬ (j : Int) < (j : Int) := by omega
        clear hyl
        go_wp2
        go_ret
        exact ⟨rfl, hown, hbel, hgr⟩

end Go.Proofs.YtapffbbmofhpobaDoor.L4

namespace Go.Proofs.YtapffbbmofhpobaDoor.L1
open Go.RowKit
set_option linter.unusedVariables false

theorem info_u8 : (Tryd.prog.info? 5).map (fun i => (i.zero, i.size, i.bytes)) = some (some (.int .u8 0), 1, 1) := by kernel_rfl

/-- A row of bytes that a call owns, as a text. -/
theorem conv_own {w : World} {base : Nat} {v : Value} {n : Nat} {l : List Int} (hown : w.ownsRow base 5 1 v n (l.map (Value.int .u8))) (hn : 0 < n) :
    (convert 76 9 v).run Tryd.prog w = .ok (.string (strOfNums l)) w := by
  have hlen := hown.1
  rcases hown.2 with ⟨_, h0⟩ | ⟨g, cap, cur, rfl, hb, hg, hle, hm, hs, ht⟩
  · omega
  · simp at hlen
    exact run_convert_bytes_arg w 76 5 Tryd.underlying76 Tryd.underlying5 g 0 n cap l hlen (fun i hi => by
      have := hown.cells (g := g) rfl i (.int .u8 (l.getD i 0)) (by
        rw [List.getElem?_map, List.getElem?_eq_getElem (by omega)]
        simp [List.getD, List.getElem?_eq_getElem (show i < l.length by omega)])
      rw [addr_add] at this
      simpa using this) 9 Tryd.underlying9
end Go.Proofs.YtapffbbmofhpobaDoor.L1

namespace Go.Proofs.YtapffbbmofhpobaDoor.L3
open Go.RowKit L1
set_option linter.unusedVariables false

/-- A number's digits. -/
def dgN (k : Nat) : List Int := if h : k = 0 then [] else dgN (k / 10) ++ [48 + ((k % 10 : Nat) : Int)]
termination_by k
decreasing_by omega
theorem dgN_zero : dgN 0 = [] := by rw [dgN]; simp
theorem dgN_succ (k : Nat) (h : k ≠ 0) : dgN k = dgN (k / 10) ++ [48 + ((k % 10 : Nat) : Int)] := by
  conv => lhs; rw [dgN]
  rw [dif_neg h]
theorem dgN_len (k : Nat) : (dgN k).length ≤ k := by
  induction k using Nat.strongRecOn with
  | _ k ih =>
    by_cases h : k = 0
    · rw [h, dgN_zero]; simp
    · rw [dgN_succ k h]
      have := ih (k / 10) (by omega)
      simp only [List.length_append, List.length_cons, List.length_nil]
      omega
theorem str_app (l m : List Int) : strOfNums (l ++ m) = strOfNums l ++ strOfNums m := by
  apply ByteArray.ext
  apply Array.toList_inj.1
  show _ = (ByteArray.append (strOfNums l) (strOfNums m)).data.toList
  simp [strOfNums, ByteArray.append]
theorem str_size (l : List Int) : (strOfNums l).size = l.length := by
  show (strOfNums l).data.size = _
  simp [strOfNums]
/-- The text that marks a number. -/
def mkT (k : Int) : ByteArray := if k ≤ 0 then ⟨#[109, 48]⟩ else strOfNums (109 :: dgN k.toNat)

set_option maxRecDepth 100000 in
set_option maxHeartbeats 1000000 in
theorem markText_any (k : Int) (w : World) (h0 : 0 < k) (h1 : k ≤ 4294967296) :
    Calls Tryd.prog 56 #[.int .i64 k] w fun e w' => e = .returned (.string (mkT k)) ∧ Below w.heap.size w w' := by
  obtain ⟨n, rfl⟩ : ∃ n : Nat, k = (n : Int) := ⟨k.toNat, by omega⟩
  have hk : ¬ (n : Int) ≤ 0 := by omega
  have HT : Hid (mkT (n : Int) = strOfNums [109] ++ strOfNums (dgN n)) := by
    show mkT (n : Int) = _
    unfold mkT
    rw [if_neg hk, ← str_app]
    simp
  have HL := hide (dgN_len n)
  go_enter Tryd.func56, Tryd.ntmps56
  go_wp2
  go_loopw [0, 3] (fun kv o wr => ∃ (j : Nat) (L : List Int), j ≤ n ∧ kv = .int .i64 j ∧ o = .string (strOfNums L) ∧ Hid (dgN j ++ L = dgN n) ∧ Below w.heap.size w wr) (fun kv _ _ => (intOf kv).toNat)
  case atStart => exact ⟨n, [], Nat.le_refl _, rfl, rfl, by show dgN n ++ [] = dgN n; simp, Below.refl _ _⟩
  case round =>
    obtain ⟨j, L, hj, rfl, rfl, HD, hbel⟩ := hrel
    have hLs : L.length ≤ n := by
      have := congrArg List.length HD.out
      have h2 := HL.out
      rw [List.length_append] at this
      omega
    have hsz := str_size L
    have happ := fun d => str_app [d] L
    obtain ⟨A, hA⟩ : ∃ A, A = strOfNums L := ⟨_, rfl⟩
    rw [← hA] at hsz ⊢
    simp only [← hA] at happ
    have hA8 : (A.size : Int) ≤ 4294967296 := by omega
    have HA := hide hA
    have HAPP := hide happ
    clear hsz hA happ
    by_cases hj0 : 0 < (j : Int)
    · have hd : Int.tmod (j : Int) 10 = ((j % 10 : Nat) : Int) := by rw [Int.tmod_eq_emod_of_nonneg (by omega)]; omega
      have hq : Int.tdiv (j : Int) 10 = ((j / 10 : Nat) : Int) := by rw [Int.tdiv_eq_ediv_of_nonneg (by omega)]; omega
      have hst := dgN_succ j (by omega)
      have hd9 : j % 10 < 10 := Nat.mod_lt _ (by omega)
      have hjq : j / 10 < j := by omega
      obtain ⟨d, hde⟩ : ∃ d, d = j % 10 := ⟨_, rfl⟩
      obtain ⟨q, hqe⟩ : ∃ q, q = j / 10 := ⟨_, rfl⟩
      rw [← hde] at hd hst hd9
      rw [← hqe] at hq hst hjq
      have hcv : (convert 76 9 (.slice (some ⟨wr.heap.size, 0, none⟩) 1 1)).run Tryd.prog (wr.alloc (.cells #[.int .u8 (48 + (d : Int))] 5)) = .ok (.string (strOfNums [48 + (d : Int)])) (wr.alloc (.cells #[.int .u8 (48 + (d : Int))] 5)) :=
        run_convert_bytes_arg _ 76 5 Tryd.underlying76 Tryd.underlying5 wr.heap.size 0 1 1 [48 + (d : Int)] rfl (fun i hi => by
          obtain rfl : i = 0 := by omega
          simp) 9 Tryd.underlying9
      have hw8 : IntKind.u8.wrap (48 + (d : Int)) = 48 + (d : Int) := by
        simp only [IntKind.wrap, IntKind.bits, IntKind.signed]
        simp
        omega
      obtain ⟨D, hD⟩ : ∃ D, D = strOfNums [48 + (d : Int)] := ⟨_, rfl⟩
      have hDs : (D.size : Int) ≤ 8 := by rw [hD, str_size]; simp
      rw [← hD] at hcv
      have R : Hid (D ++ A = strOfNums ((48 + (d : Int)) :: L)) := by show D ++ A = _; rw [hD, ← HAPP.out]; rfl
      have R2 : Hid (dgN q ++ ((48 + (d : Int)) :: L) = dgN n) := by show _ = _; rw [← HD.out, hst]; simp
      have B0 := hide hbel
      clear hde hqe hD hst hbel
      go_wp2
      go_roundw
      case rel => exact ⟨q, (48 + (d : Int)) :: L, by omega, by go_num, by rw [R.out], R2.out, B0.out.alloc B0.out.size _⟩
      case measure => simp [intOf]; omega
    · obtain rfl : j = 0 := by omega
      have e : L = dgN n := by have := HD.out; rw [dgN_zero] at this; simpa using this
      have HE : Hid (mkT (n : Int) = ⟨#[109]⟩ ++ A) := by show mkT (n : Int) = _; rw [HT.out, HA.out, e]; rfl
      have B0 := hide hbel
      clear e hbel
      go_wp2
      go_ret
      exact ⟨by rw [HE.out]; rfl, B0.out⟩
end Go.Proofs.YtapffbbmofhpobaDoor.L3

namespace Go.Proofs.YtapffbbmofhpobaDoor.L6
open Go.RowKit L1
set_option linter.unusedVariables false

/-- The number that a piece's marks begin with. -/
def kat (L : List Pc) : Nat → Int
  | 0 => 1
  | i + 1 => kat L i + 2 + ((gc L i).x.length : Int)
/-- The marks of pieces. -/
def mkp (L : List Pc) (i : Nat) : Pc := ⟨kat L i, L3.mkT (kat L i + 1), L4.mkC (kat L i + 2) (gc L i).x.length⟩
def mks (L : List Pc) : List Pc := (List.range L.length).map (mkp L)
theorem mks_len (L : List Pc) : (mks L).length = L.length := by simp [mks]
theorem mks_get (L : List Pc) (i : Nat) (h : i < L.length) : gc (mks L) i = mkp L i := by simp [gc, mks, List.getD, h]
theorem kat_pos (L : List Pc) : ∀ i, 1 ≤ kat L i
  | 0 => Int.le_refl _
  | i + 1 => by have := kat_pos L i; unfold kat; omega
theorem kat_le (L : List Pc) (n : Nat) (X : Nat) (h : ∀ i, i < n → (gc L i).x.length ≤ X) : ∀ i, i ≤ n → kat L i ≤ 1 + (i : Int) * (2 + (X : Int))
  | 0, _ => by simp [kat]
  | i + 1, hi => by
    have h1 := kat_le L n X h i (by omega)
    have h2 := h i (by omega)
    unfold kat
    have e : ((i + 1 : Nat) : Int) * (2 + (X : Int)) = (i : Int) * (2 + (X : Int)) + (2 + (X : Int)) := by
      rw [show ((i + 1 : Nat) : Int) = (i : Int) + 1 by omega, Int.add_mul, Int.one_mul]
    rw [e]
    omega
/-- Only blocks between two numbers, and new ones, are written into. -/
structure Only (lo hi : Nat) (w w' : World) : Prop where
  os : w'.os = w.os
  tape : w'.tape = w.tape
  output : w'.output = w.output
  size : w.heap.size ≤ w'.heap.size
  block : ∀ k, k < w.heap.size → (k < lo ∨ hi ≤ k) → w'.heap[k]? = w.heap[k]?
theorem Only.refl (lo hi : Nat) (w : World) : Only lo hi w w := ⟨rfl, rfl, rfl, Nat.le_refl _, fun _ _ _ => rfl⟩
theorem Only.cell {lo hi : Nat} {w w' : World} (h : Only lo hi w w') {p : Addr} {v : Value} (hc : w.cell? p = some v) (ho : p.block < lo ∨ hi ≤ p.block) : w'.cell? p = some v := by
  have := h.block p.block (blk_ltA hc) ho
  rw [← hc]
  simp only [World.cell?, this]
theorem Only.below {lo hi : Nat} {w w' : World} (h : Only lo hi w w') (hl : lo ≤ w.heap.size) : Below lo w w' := ⟨h.os, h.tape, h.output, h.size, fun k hk => h.block k (by omega) (.inl hk)⟩
theorem Only.grown {lo hi : Nat} {w w1 w2 : World} {r : Option Nat} (h : Only lo hi w w1) (hg : w1.grownBy w2 r) (hr : ∀ g, r = some g → lo ≤ g ∧ g < hi) : Only lo hi w w2 := by
  refine ⟨hg.os.trans h.os, hg.tape.trans h.tape, hg.output.trans h.output, Nat.le_trans h.size hg.size, fun k hk ho => (hg.block k (Nat.lt_of_lt_of_le hk h.size) (fun e => ?_)).trans (h.block k hk ho)⟩
  have := hr k e.symm
  omega
theorem Only.row {lo hi : Nat} {w w' : World} (h : Only lo hi w w') {base n c : Nat} {t : TypeId} {v : Value} {xs : List Value} (ho : w.ownsRow base t c v n xs) (hb : hi ≤ base) : w'.ownsRow base t c v n xs := by
  refine ⟨ho.1, ?_⟩
  rcases ho.2 with h0 | ⟨g, cap, cur, rfl, hbg, hg, r⟩
  · exact .inl h0
  · exact .inr ⟨g, cap, cur, rfl, hbg, by rw [h.block g (Array.getElem?_eq_some_iff.1 hg).1 (.inr (by omega))]; exact hg, r⟩
theorem Only.ow {lo hi : Nat} {w w' : World} (h : Only lo hi w w') {base n : Nat} {v : Value} {M : List PV} (ho : OwC w base v n M) (hb : hi ≤ base) : OwC w' base v n M :=
  ⟨ho.len, h.row ho.row hb, fun i hi => h.row (ho.idx i hi) hb, ho.apart⟩
/-- All blocks of a log lie below a number. -/
structure InC (hi : Nat) (v : Value) (n : Nat) (M : List PV) : Prop where
  row : ∀ g, v.ownBlock = some g → g < hi
  idx : ∀ i, i < n → ∀ g, (M.getD i eV).2.ownBlock = some g → g < hi
theorem OwC.inC {w : World} {base n : Nat} {v : Value} {M : List PV} (h : OwC w base v n M) : InC w.heap.size v n M :=
  ⟨fun g hg => (own_ltC h.row g hg).2, fun i hi g hg => (own_ltC (h.idx i hi) g hg).2⟩
/-- From and Bytes of a piece written over. -/
theorem OwC.setF {w : World} {base g n cap : Nat} {M : List PV} (h : OwC w base (.slice (some ⟨g, 0, none⟩) n cap) n M) (k : Nat) (hk : k < n) (f : Int) :
    OwC (w.setCell ⟨g, k * 3, none⟩ (.int .i64 f)) base (.slice (some ⟨g, 0, none⟩) n cap) n (M.set k (⟨f, (M.getD k eV).1.s, (M.getD k eV).1.x⟩, (M.getD k eV).2)) ∧ w.grownBy (w.setCell ⟨g, k * 3, none⟩ (.int .i64 f)) (some g) := by
  have h1 := h.row.stored (k * 3) (.int .i64 f)
  have hl := h.len
  have hfl : (flatC M).length = n * 3 := by rw [flatC_len, hl]
  have keep : ∀ {c m : Nat} {u : Value} {ys : List Value}, w.ownsRow base 3 c u m ys → (w.setCell ⟨g, k * 3, none⟩ (.int .i64 f)).ownsRow base 3 c u m ys := fun hu =>
    own_keptC hu h1.2 (fun b hb e => by
      simp at e
      subst e
      exact own_two h.row hu int_piece g rfl hb)
  refine ⟨⟨by simpa using hl, ?_, fun i hi => ?_, fun i j hij hj => ?_⟩, h1.2⟩
  · obtain ⟨f1, f2, f3⟩ := flatC_get M k (by omega)
    rw [flatC_set]
    unfold L6.setC
    simp only
    have e2 : ((flatC M).set (k * 3) (.int .i64 f)).set (k * 3 + 1) (.string (M.getD k eV).1.s) = (flatC M).set (k * 3) (.int .i64 f) := by
      apply List.ext_getElem?
      intro j
      by_cases e : j = k * 3 + 1
      · subst e
        rw [List.getElem?_set_self (by simp; omega), List.getElem?_set_ne (by omega), f2]
      · rw [List.getElem?_set_ne (by omega)]
    have e3 : ((flatC M).set (k * 3) (.int .i64 f)).set (k * 3 + 2) (M.getD k eV).2 = (flatC M).set (k * 3) (.int .i64 f) := by
      apply List.ext_getElem?
      intro j
      by_cases e : j = k * 3 + 2
      · subst e
        rw [List.getElem?_set_self (by simp; omega), List.getElem?_set_ne (by omega), f3]
      · rw [List.getElem?_set_ne (by omega)]
    rw [e2, e3]
    exact h1.1
  · by_cases e : i = k
    · subst e
      rw [getD_set_self M i _ (by omega)]
      exact keep (h.idx i hi)
    · rw [getD_set_ne M k i _ e]
      exact keep (h.idx i hi)
  · intro b
    have q : ∀ t, t < n → ((M.set k (⟨f, (M.getD k eV).1.s, (M.getD k eV).1.x⟩, (M.getD k eV).2)).getD t eV).2 = (M.getD t eV).2 := fun t ht => by
      by_cases e : t = k
      · subst e; rw [getD_set_self M t _ (by omega)]
      · rw [getD_set_ne M k t _ e]
    rw [q i (by omega), q j hj]
    exact h.apart i j hij hj b
theorem OwC.setS {w : World} {base g n cap : Nat} {M : List PV} (h : OwC w base (.slice (some ⟨g, 0, none⟩) n cap) n M) (k : Nat) (hk : k < n) (s : ByteArray) :
    OwC (w.setCell ⟨g, k * 3 + 1, none⟩ (.string s)) base (.slice (some ⟨g, 0, none⟩) n cap) n (M.set k (⟨(M.getD k eV).1.f, s, (M.getD k eV).1.x⟩, (M.getD k eV).2)) ∧ w.grownBy (w.setCell ⟨g, k * 3 + 1, none⟩ (.string s)) (some g) := by
  have h1 := h.row.stored (k * 3 + 1) (.string s)
  have hl := h.len
  have hfl : (flatC M).length = n * 3 := by rw [flatC_len, hl]
  have keep : ∀ {c m : Nat} {u : Value} {ys : List Value}, w.ownsRow base 3 c u m ys → (w.setCell ⟨g, k * 3 + 1, none⟩ (.string s)).ownsRow base 3 c u m ys := fun hu =>
    own_keptC hu h1.2 (fun b hb e => by
      simp at e
      subst e
      exact own_two h.row hu int_piece g rfl hb)
  refine ⟨⟨by simpa using hl, ?_, fun i hi => ?_, fun i j hij hj => ?_⟩, h1.2⟩
  · obtain ⟨f1, f2, f3⟩ := flatC_get M k (by omega)
    rw [flatC_set]
    unfold L6.setC
    simp only
    have e1 : (flatC M).set (k * 3) (.int .i64 (M.getD k eV).1.f) = flatC M := by
      apply List.ext_getElem?
      intro j
      by_cases e : j = k * 3
      · subst e
        rw [List.getElem?_set_self (by omega), f1]
      · rw [List.getElem?_set_ne (by omega)]
    have e3 : ((flatC M).set (k * 3 + 1) (.string s)).set (k * 3 + 2) (M.getD k eV).2 = (flatC M).set (k * 3 + 1) (.string s) := by
      apply List.ext_getElem?
      intro j
      by_cases e : j = k * 3 + 2
      · subst e
        rw [List.getElem?_set_self (by simp; omega), List.getElem?_set_ne (by omega), f3]
      · rw [List.getElem?_set_ne (by omega)]
    rw [e1, e3]
    exact h1.1
  · by_cases e : i = k
    · subst e
      rw [getD_set_self M i _ (by omega)]
      exact keep (h.idx i hi)
    · rw [getD_set_ne M k i _ e]
      exact keep (h.idx i hi)
  · intro b
    have q : ∀ t, t < n → ((M.set k (⟨(M.getD k eV).1.f, s, (M.getD k eV).1.x⟩, (M.getD k eV).2)).getD t eV).2 = (M.getD t eV).2 := fun t ht => by
      by_cases e : t = k
      · subst e; rw [getD_set_self M t _ (by omega)]
      · rw [getD_set_ne M k t _ e]
    rw [q i (by omega), q j hj]
    exact h.apart i j hij hj b
/-- An Index written over. -/
theorem OwC.setX {w w' : World} {base n : Nat} {v : Value} {M : List PV} (h : OwC w base v n M) (k : Nat) (hk : k < n) (xs : List Int) (hx : w'.ownsRow base 3 1 (M.getD k eV).2 xs.length (xs.map (Value.int .i64))) (hg : w.grownBy w' (M.getD k eV).2.ownBlock) :
    OwC w' base v n (M.set k (⟨(M.getD k eV).1.f, (M.getD k eV).1.s, xs⟩, (M.getD k eV).2)) := by
  have hl := h.len
  obtain ⟨f1, f2, f3⟩ := flatC_get M k (by omega)
  have q : ∀ t, t < n → ((M.set k (⟨(M.getD k eV).1.f, (M.getD k eV).1.s, xs⟩, (M.getD k eV).2)).getD t eV).2 = (M.getD t eV).2 := fun t ht => by
    by_cases e : t = k
    · subst e; rw [getD_set_self M t _ (by omega)]
    · rw [getD_set_ne M k t _ e]
  refine ⟨by simpa using hl, ?_, fun i hi => ?_, fun i j hij hj => ?_⟩
  · have e0 : flatC (M.set k (⟨(M.getD k eV).1.f, (M.getD k eV).1.s, xs⟩, (M.getD k eV).2)) = flatC M := by
      have hfl : (flatC M).length = n * 3 := by rw [flatC_len, hl]
      rw [flatC_set]
      unfold L6.setC
      apply List.ext_getElem?
      intro j
      by_cases e2 : j = k * 3 + 2
      · subst e2
        rw [List.getElem?_set_self (by simp; omega), f3]
      · rw [List.getElem?_set_ne (by omega)]
        by_cases e1 : j = k * 3 + 1
        · subst e1
          rw [List.getElem?_set_self (by simp; omega), f2]
        · rw [List.getElem?_set_ne (by omega)]
          by_cases e : j = k * 3
          · subst e
            rw [List.getElem?_set_self (by omega), f1]
          · rw [List.getElem?_set_ne (by omega)]
    rw [e0]
    exact own_keptC h.row hg (fun b hb e => own_two h.row (h.idx k hk) int_piece b hb e)
  · by_cases e : i = k
    · subst e
      rw [getD_set_self M i _ (by omega)]
      exact hx
    · rw [getD_set_ne M k i _ e]
      refine own_keptC (h.idx i hi) hg (fun b hb e2 => ?_)
      by_cases hlt : i < k
      · exact h.apart i k hlt hk b hb e2
      · exact h.apart k i (by omega) hi b e2 hb
  · intro b
    rw [q i (by omega), q j hj]
    exact h.apart i j hij hj b
end Go.Proofs.YtapffbbmofhpobaDoor.L6

namespace Go.Proofs.YtapffbbmofhpobaDoor.L6
open Go.RowKit L1
set_option linter.unusedVariables false

/-- Pieces in memory, with the slices that their Indexes are. -/
theorem slC_vals {w : World} {a : Option Addr} {L : List Pc} (h : SlC w a L) : ∃ M : List PV, pcs M = L ∧ (∀ i, i < L.length → ∃ ai ci, (M.getD i eV).2 = .slice ai (gc L i).x.length ci ∧ Sl w ai (gc L i).x) ∧ (∀ j v, (flatC M)[j]? = some v → ∃ b off, a = some ⟨b, off, none⟩ ∧ w.cell? ⟨b, off + j, none⟩ = some v) := by
  obtain ⟨F, hF⟩ : ∃ F : Nat → Value, ∀ i, i < L.length → ∃ b off ai ci, a = some ⟨b, off, none⟩ ∧ F i = .slice ai (gc L i).x.length ci ∧ AtC w b (off + i * 3) (gc L i) ai ci := by
    classical
    refine ⟨fun i => if hi : i < L.length then .slice (Classical.choose (Classical.choose_spec (Classical.choose_spec (h i hi))).2) (gc L i).x.length (Classical.choose (Classical.choose_spec (Classical.choose_spec (Classical.choose_spec (h i hi))).2)) else .slice none 0 0, fun i hi => ?_⟩
    have h1 := Classical.choose_spec (Classical.choose_spec (h i hi))
    have h2 := Classical.choose_spec (Classical.choose_spec h1.2)
    exact ⟨_, _, _, _, h1.1, by simp only [dif_pos hi], h2⟩
  refine ⟨(List.range L.length).map (fun i => (gc L i, F i)), ?_, fun i hi => ?_, fun j v hv => ?_⟩
  · apply List.ext_getElem?
    intro j
    by_cases hj : j < L.length
    · simp [gc, List.getD, hj]
    · rw [List.getElem?_eq_none (by simp; omega), List.getElem?_eq_none (by omega)]
  · obtain ⟨b, off, ai, ci, _, h2, h3⟩ := hF i hi
    have hgd : ((List.range L.length).map (fun i => (gc L i, F i))).getD i eV = (gc L i, F i) := by simp [List.getD, hi]
    exact ⟨ai, ci, by rw [hgd]; exact h2, h3.l⟩
  · have hj : j < (flatC ((List.range L.length).map (fun i => (gc L i, F i)))).length := by
      by_cases hj : j < (flatC ((List.range L.length).map (fun i => (gc L i, F i)))).length
      · exact hj
      · rw [List.getElem?_eq_none (by omega)] at hv; cases hv
    rw [flatC_len] at hj
    simp at hj
    have hi : j / 3 < L.length := by omega
    have hi' : j / 3 < ((List.range L.length).map (fun i => (gc L i, F i))).length := by simp; exact hi
    obtain ⟨f1, f2, f3⟩ := flatC_get _ _ hi'
    have hgd : ((List.range L.length).map (fun i => (gc L i, F i))).getD (j / 3) eV = (gc L (j / 3), F (j / 3)) := by simp [List.getD, hi]
    rw [hgd] at f1 f2 f3
    simp only at f1 f2 f3
    obtain ⟨b, off, ai, ci, ha, hFi, hat⟩ := hF (j / 3) hi
    refine ⟨b, off, ha, ?_⟩
    have hm : j % 3 = 0 ∨ j % 3 = 1 ∨ j % 3 = 2 := by omega
    rcases hm with e | e | e
    · have ej : j = j / 3 * 3 := by omega
      rw [← ej] at f1; rw [f1] at hv; cases hv
      rw [show off + j = off + j / 3 * 3 by omega]; exact hat.f
    · have ej : j = j / 3 * 3 + 1 := by omega
      rw [← ej] at f2; rw [f2] at hv; cases hv
      rw [show off + j = off + j / 3 * 3 + 1 by omega]; exact hat.s
    · have ej : j = j / 3 * 3 + 2 := by omega
      rw [← ej] at f3; rw [f3] at hv; cases hv
      rw [show off + j = off + j / 3 * 3 + 2 by omega, hFi]; exact hat.x
/-- Pieces of which the first so many have an Index of their own. -/
structure OwK (w : World) (base : Nat) (v : Value) (n k : Nat) (M : List PV) : Prop where
  len : M.length = n
  row : w.ownsRow base 37 3 v n (flatC M)
  idx : ∀ i, i < k → w.ownsRow base 3 1 (M.getD i eV).2 (M.getD i eV).1.x.length ((M.getD i eV).1.x.map (Value.int .i64))
  apart : ∀ i j, i < j → j < k → ∀ g, (M.getD i eV).2.ownBlock = some g → (M.getD j eV).2.ownBlock ≠ some g
theorem OwK.all {w : World} {base n : Nat} {v : Value} {M : List PV} (h : OwK w base v n n M) : OwC w base v n M := ⟨h.len, h.row, h.idx, h.apart⟩
theorem OwK.grown {w w' : World} {base n k : Nat} {v : Value} {M : List PV} (h : OwK w base v n k M) (hg : w.grownBy w' none) : OwK w' base v n k M :=
  ⟨h.len, own_keptC h.row hg (fun _ _ e => by cases e), fun i hi => own_keptC (h.idx i hi) hg (fun _ _ e => by cases e), h.apart⟩
/-- The next Index. -/
theorem OwK.step {w : World} {base g n k : Nat} {M : List PV} (h : OwK w base (.slice (some ⟨g, 0, none⟩) n n) n k M) (hk : k < n) (u : Value) (hu : w.ownsRow base 3 1 u (M.getD k eV).1.x.length ((M.getD k eV).1.x.map (Value.int .i64)))
    (hnew : ∀ i, i < k → ∀ b, u.ownBlock = some b → (M.getD i eV).2.ownBlock ≠ some b) :
    OwK (w.setCell ⟨g, k * 3 + 2, none⟩ u) base (.slice (some ⟨g, 0, none⟩) n n) n (k + 1) (M.set k ((M.getD k eV).1, u)) ∧ w.grownBy (w.setCell ⟨g, k * 3 + 2, none⟩ u) (some g) := by
  have h1 := h.row.stored (k * 3 + 2) u
  have hl := h.len
  have hfl : (flatC M).length = n * 3 := by rw [flatC_len, hl]
  have keep : ∀ {c m : Nat} {v : Value} {ys : List Value}, w.ownsRow base 3 c v m ys → (w.setCell ⟨g, k * 3 + 2, none⟩ u).ownsRow base 3 c v m ys := fun hv =>
    own_keptC hv h1.2 (fun b hb e => by
      simp at e
      subst e
      exact own_two h.row hv int_piece g rfl hb)
  refine ⟨⟨by simpa using hl, ?_, fun i hi => ?_, fun i j hij hj => ?_⟩, h1.2⟩
  · obtain ⟨f1, f2, f3⟩ := flatC_get M k (by omega)
    rw [flatC_set]
    unfold L6.setC
    simp only
    have e1 : (flatC M).set (k * 3) (.int .i64 (M.getD k eV).1.f) = flatC M := by
      apply List.ext_getElem?
      intro j
      by_cases e : j = k * 3
      · subst e
        rw [List.getElem?_set_self (by omega), f1]
      · rw [List.getElem?_set_ne (by omega)]
    have e2 : (flatC M).set (k * 3 + 1) (.string (M.getD k eV).1.s) = flatC M := by
      apply List.ext_getElem?
      intro j
      by_cases e : j = k * 3 + 1
      · subst e
        rw [List.getElem?_set_self (by omega), f2]
      · rw [List.getElem?_set_ne (by omega)]
    rw [e1, e2]
    exact h1.1
  · by_cases e : i = k
    · subst e
      rw [getD_set_self M i _ (by omega)]
      exact keep hu
    · rw [getD_set_ne M k i _ e]
      exact keep (h.idx i (by omega))
  · intro b
    by_cases e : j = k
    · subst e
      rw [getD_set_self M j _ (by omega), getD_set_ne M j i _ (by omega)]
      intro h1 h2
      exact hnew i (by omega) b h2 h1
    · rw [getD_set_ne M k i _ (by omega), getD_set_ne M k j _ e]
      exact h.apart i j hij (by omega) b

set_option maxRecDepth 100000 in
set_option maxHeartbeats 4000000 in
theorem copyLog_any (a : Option Addr) (L : List Pc) (n cap : Nat) (B : Int) (w : World) (hn : L.length = n) (h1 : 1 ≤ n) (h20 : n ≤ 20) (hs : SlC w a L) (hX : ∀ i, i < n → (gc L i).x.length ≤ 60) :
    Calls Tryd.prog 30 #[.agg #[.slice a n cap, .int .i64 B]] w fun e w' => ∃ g M, e = .returned (.agg #[.slice (some ⟨g, 0, none⟩) n n, .int .i64 B]) ∧ pcs M = L ∧ OwC w' w.heap.size (.slice (some ⟨g, 0, none⟩) n n) n M ∧ Below w.heap.size w w' := by
  obtain ⟨i0, hi, hz0, hz1, hz2⟩ := info_parts info_piece
  obtain ⟨b, off, rfl, _⟩ := hs 0 (by omega)
  obtain ⟨W, hW⟩ : ∃ W, W = (w.alloc (.cells #[.slice (some ⟨b, off, none⟩) n cap, .int .i64 B] 28 (0, 0))).alloc (.cells #[.slice none 0 0, .int .i64 0] 28 (0, 0)) := ⟨_, rfl⟩
  have hWs : W.heap.size = w.heap.size + 2 := by rw [hW]; simp
  have hbW : Below w.heap.size w W := by rw [hW]; exact ((Below.refl _ _).alloc (Nat.le_refl _) _).alloc (by simp) _
  obtain ⟨w1, hmk, hown1, hg1⟩ := run_make_full (P := Tryd.prog) W W.heap.size 26 37 i0 (.agg #[.int .i64 0, .string ByteArray.empty, .slice none 0 0]) 3 Tryd.underlying26 hi hz0 hz1 .i64 .i64 n (by rw [hz2]; omega) (by unfold maxLen; omega) (Nat.le_refl _)
  have hb1 : Below W.heap.size W w1 := (Below.refl _ _).grown hg1 (Nat.le_refl _) (fun k hk => by cases hk)
  obtain ⟨M0, hM0, hM1, hM2⟩ := slC_vals hs
  have hM0l : M0.length = n := by rw [← hn, ← hM0]; simp
  have hbw1 : Below w.heap.size w w1 := hbW.trans (hb1.mono (by omega))
  have G0 : W.heap[w.heap.size]? = some (.cells #[.slice (some ⟨b, off, none⟩) n cap, .int .i64 B] 28 (0, 0)) ∧ W.heap[w.heap.size + 1]? = some (.cells #[.slice none 0 0, .int .i64 0] 28 (0, 0)) := by
    rw [hW]
    have e2 := blk_new (w.alloc (.cells #[.slice (some ⟨b, off, none⟩) n cap, .int .i64 B] 28 (0, 0))) (.cells #[.slice none 0 0, .int .i64 0] 28 (0, 0))
    rw [World.size_alloc] at e2
    exact ⟨(((Below.refl (w.alloc (.cells #[.slice (some ⟨b, off, none⟩) n cap, .int .i64 B] 28 (0, 0))).heap.size _).alloc (Nat.le_refl _) _).block w.heap.size (by simp)).trans (blk_new _ _), e2⟩
  obtain ⟨k0, k1, _, _⟩ := blkp ((hb1.block w.heap.size (by omega)).trans G0.1)
  have HG1 := hide ((hb1.block (w.heap.size + 1) (by omega)).trans G0.2)
  have hsrc : ∀ j v, (flatC M0)[j]? = some v → w1.cell? ((⟨b, off, none⟩ : Addr).add j) = some v := fun j v hv => by
    obtain ⟨b', off', he, hc⟩ := hM2 j v hv
    cases he
    rw [add_at6]
    exact (hbw1.cell (p := ⟨b, off + j, none⟩) (blk_lt hc)).trans hc
  have hone : ∀ v ∈ flatC M0, v.oneCell' = true := flatC_one M0 (fun q hq => by
    obtain ⟨i, hi, rfl⟩ := List.getElem_of_mem hq
    obtain ⟨ai, ci, e, _⟩ := hM1 i (by omega)
    rw [show M0[i] = M0.getD i eV by simp [List.getD, List.getElem?_eq_getElem hi], e]
    rfl)
  have HSRC := hide hsrc
  have HONE := hide hone
  have HM0 := hide hM0
  have HM1 := hide hM1
  have HML := hide hM0l
  have HX := hide hX
  have HN := hide hn
  have HBW1 := hide hbw1
  rw [hWs] at hmk hown1
  have HO1 := hide hown1
  have hsz1 : w.heap.size + 2 ≤ w1.heap.size := by have := hb1.size; omega
  have hinf : (Tryd.prog.info? 37).map (·.size) = some 3 := by rw [hi]; simp [hz1]
  obtain ⟨w2, hcp, ho2, hg2⟩ := run_copy_all Tryd.prog w1 26 26 3 37 3 Tryd.underlying26 hinf (w.heap.size + 2) (w.heap.size + 2) n ⟨b, off, none⟩ cap _ HO1.out (flatC M0) (by rw [flatC_len, HML.out]) HSRC.out HONE.out
  have k0' := grown_cell hg2 ⟨w.heap.size, 0, none⟩ k0 (by simp)
  have k1' := grown_cell hg2 ⟨w.heap.size, 1, none⟩ k1 (by simp)
  have HR0 : Hid (w2.heap[w.heap.size + 1]? = some (.cells #[.slice none 0 0, .int .i64 0] 28 (0, 0))) := (hg2.block (w.heap.size + 1) (by omega) (by simp)).trans HG1.out
  have HK0 : Hid (OwK w2 (w.heap.size + 2) (.slice (some ⟨w.heap.size + 2, 0, none⟩) n n) n 0 M0) := ⟨HML.out, ho2, fun i hi => absurd hi (Nat.not_lt_zero _), fun i j _ hj => absurd hj (Nat.not_lt_zero _)⟩
  have HB2 : Hid (Below w.heap.size w w2) := HBW1.out.grown hg2 (by omega) (fun q hq => by cases hq; omega)
  subst hW
  clear ho2 hg2
  clear hs hn hX hM0 hM1 hM2 hM0l hsrc hone hown1 hg1 hb1 hbw1 hbW hWs G0
  go_enter Tryd.func30, Tryd.ntmps30
  go_wp2
  go_loopw [16] (fun i wr => ∃ (k : Nat) (N : List PV), k ≤ n ∧ i = .int .i64 k ∧ Hid (OwK wr (w.heap.size + 2) (.slice (some ⟨w.heap.size + 2, 0, none⟩) n n) n k N) ∧ Hid (∀ t, k ≤ t → t < n → N.getD t eV = M0.getD t eV) ∧ Hid (pcs N = L) ∧ wr.cell? ⟨w.heap.size, 1, none⟩ = some (.int .i64 B) ∧ Hid (wr.heap[w.heap.size + 1]? = some (.cells #[.slice none 0 0, .int .i64 0] 28 (0, 0))) ∧ Below w.heap.size w wr) (fun i _ => n - (intOf i).toNat)
  case atStart => exact ⟨0, M0, Nat.zero_le _, rfl, HK0.out, fun _ _ _ => rfl, HM0.out, k1', HR0.out, HB2.out⟩
  case round =>
    obtain ⟨k, N, hk, rfl, HK, HT2, HP, kB, HR, hbel⟩ := hrel
    by_cases hlt : k < n
    · have hltI : (k : Int) < (n : Int) := by omega
      have hNk := HT2.out k (Nat.le_refl _) hlt
      obtain ⟨ai, ci, hv, hsl⟩ := HM1.out k (by rw [HN.out]; exact hlt)
      have hNl := HK.out.len
      have hp1 : (N.getD k eV).1 = gc L k := by
        have := pcs_get N k (by omega)
        rw [HP.out] at this
        exact this.symm
      obtain ⟨f1, f2, f3⟩ := flatC_get N k (by omega)
      rw [hp1] at f1 f2
      rw [hNk, hv] at f3
      have hfl : (flatC N).length = n * 3 := by rw [flatC_len, hNl]
      have c1 := (HK.out.row.cellAt (k * 3) (by omega)).trans f1
      have c2 := (HK.out.row.cellAt (k * 3 + 1) (by omega)).trans f2
      have c3 := (HK.out.row.cellAt (k * 3 + 2) (by omega)).trans f3
      have hxl := HX.out k hlt
      have hsl2 := hsl.below hbel
      obtain ⟨p, hp⟩ : ∃ p, p = gc L k := ⟨_, rfl⟩
      rw [← hp] at c1 c2 c3 hsl2 hxl hp1
      obtain ⟨f, s, x⟩ := p
      simp only at c1 c2 c3 hsl2 hxl
      obtain ⟨m, hm⟩ : ∃ m, m = x.length := ⟨_, rfl⟩
      rw [← hm] at c3 hxl
      have hrz : w.heap.size + 2 ≤ wr.heap.size := by have := (own_ltC HK.out.row (w.heap.size + 2) rfl).2; omega
      have HSL := hide hsl2
      have HMX := hide hm
      have HP1 := hide hp1
      have BB := hide hbel
      clear hNk hv hsl f1 f2 f3 hp hm hsl2 hp1 hfl hbel
      go_wp2_with (first
        | (at_builtin; refine wpList_append_copy rfl _ _ rfl (w.heap.size + 2) none ai 0 m ci x HMX.out.symm (by omega) rfl (World.ownsRow_nil _ _ _ _) rfl (HSL.out.below ((Below.refl _ _).alloc (Nat.le_refl _) _)) (by simp; omega) ?_)
        | go_in)
      intro a' c' w6 h6 g6 hat6
      have hal := (Below.refl wr.heap.size wr).alloc (Nat.le_refl _) (.cells #[.int .i64 f, .string s, .slice ai m ci] 37 (0, 0))
      have g7 : wr.grownBy w6 none := ⟨g6.os.trans hal.os, g6.tape.trans hal.tape, g6.output.trans hal.output, Nat.le_trans hal.size g6.size, fun q hq hne => (g6.block q (by simp; omega) (by simp [Value.ownBlock])).trans (hal.block q hq)⟩
      have K6 := HK.out.grown g7
      have kB6 := grown_cell g7 ⟨w.heap.size, 1, none⟩ kB (by simp)
      have HR6 : Hid (w6.heap[w.heap.size + 1]? = some (.cells #[.slice none 0 0, .int .i64 0] 28 (0, 0))) := (g7.block (w.heap.size + 1) (by omega) (by simp)).trans HR.out
      have B6 := BB.out.grown g7 (Nat.le_trans BB.out.size (Nat.le_refl _)) (fun q hq => by cases hq)
      have hcl := K6.row.cellAt (k * 3 + 2) (by omega)
      have hfr := K6.row.frozenAt (k * 3 + 2)
      have hfl6 : (flatC N).length = n * 3 := by rw [flatC_len, HK.out.len]
      obtain ⟨u2, hu2⟩ : ∃ v, w6.cell? ⟨w.heap.size + 2, k * 3 + 2, none⟩ = some v := ⟨_, hcl.trans (List.getElem?_eq_getElem (by omega))⟩
      have P := K6.step hlt (.slice a' m c') (by rw [HP1.out]; show w6.ownsRow _ _ _ _ x.length _; rw [← HMX.out]; exact h6) (fun q hq b hb e => by
        have h1 := (own_ltC (HK.out.idx q hq) b e).2
        rcases hat6 with h | h
        · rw [h] at hb; simp [Value.ownBlock] at hb
        · rw [h] at hb; simp at hb; omega)
      have R : ∃ (k' : Nat) (N' : List PV), k' ≤ n ∧ Value.int .i64 ((k : Int) + 1) = .int .i64 k' ∧ Hid (OwK (w6.setCell ⟨w.heap.size + 2, k * 3 + 2, none⟩ (.slice a' m c')) (w.heap.size + 2) (.slice (some ⟨w.heap.size + 2, 0, none⟩) n n) n k' N') ∧ Hid (∀ t, k' ≤ t → t < n → N'.getD t eV = M0.getD t eV) ∧ Hid (pcs N' = L) ∧ (w6.setCell ⟨w.heap.size + 2, k * 3 + 2, none⟩ (.slice a' m c')).cell? ⟨w.heap.size, 1, none⟩ = some (.int .i64 B) ∧ Hid ((w6.setCell ⟨w.heap.size + 2, k * 3 + 2, none⟩ (.slice a' m c')).heap[w.heap.size + 1]? = some (.cells #[.slice none 0 0, .int .i64 0] 28 (0, 0))) ∧ Below w.heap.size w (w6.setCell ⟨w.heap.size + 2, k * 3 + 2, none⟩ (.slice a' m c')) := by
        refine ⟨k + 1, _, by omega, by simp, P.1, fun t h1 h2 => ?_, ?_, grown_cell P.2 ⟨w.heap.size, 1, none⟩ kB6 (by simp), (P.2.block (w.heap.size + 1) (by have := g7.size; omega) (by simp)).trans HR6.out, B6.grown P.2 (by have := g7.size; omega) (fun q hq => by cases hq; omega)⟩
        · rw [getD_set_ne N k t _ (by omega)]
          exact HT2.out t (by omega) h2
        · show pcs (N.set k _) = L
          rw [← HP.out]
          apply List.ext_getElem?
          intro j
          by_cases e : j = k
          · subst e
            have hj : j < N.length := by rw [HK.out.len]; exact hlt
            rw [List.getElem?_map, List.getElem?_map, List.getElem?_set_self hj, List.getElem?_eq_getElem hj]
            simp [List.getD, List.getElem?_eq_getElem hj]
          · rw [List.getElem?_map, List.getElem?_map, List.getElem?_set_ne (by omega)]
      have HRR := hide R
      clear R P K6 hcl hfl6 h6 g6 g7 hal B6 hat6 kB6 HR6
      go_wp2
      go_roundw
      case rel => exact HRR.out
      case measure => simp [intOf]; omega
    · obtain rfl : k = n := by omega
      have hltI : ¬ (k : Int) < (k : Int) := by omega
      obtain ⟨z0, z1, z2, z3⟩ := blkp HR.out
      have BB := hide hbel
      clear hbel
      go_wp2
      refine bodyPost_ret (v := .agg #[.slice (some ⟨w.heap.size + 2, 0, none⟩) k k, .int .i64 B]) (by simp [results, Tryd.f30, go_sem, z0, z1]) rfl ⟨_, rfl, N, HP.out, ?_, ?_⟩
      · have z : w.heap.size + 1 < w.heap.size + 2 := by omega
        exact (((HK.out.all).setC ⟨_, _, none⟩ _ z).setC ⟨_, _, none⟩ _ z).base (by omega)
      · exact (BB.out.setCell (p := ⟨_, _, none⟩) (by show w.heap.size ≤ w.heap.size + 1; omega) _).setCell (p := ⟨_, _, none⟩) (by show w.heap.size ≤ w.heap.size + 1; omega) _
end Go.Proofs.YtapffbbmofhpobaDoor.L6

namespace Go.Proofs.YtapffbbmofhpobaDoor.L6
open Go.RowKit L1
set_option linter.unusedVariables false

/-- The end, as the last piece tells it. -/
def lastEnd (L : List Pc) (n : Nat) : Int := (gc L (n - 1)).f + (cnt (gc L (n - 1)).s : Int)
theorem GoodG.last {L : List Pc} {B : Int} {n : Nat} (h : GoodG L B) (hn : L.length = n) : lastEnd L n = endg L := by
  rw [← hn]
  exact (end_last h.one h.ps).symm
open Classical in
/-- What EndOf answers. -/
noncomputable def endRes (L : List Pc) (B : Int) : Option Int := if GoodG L B then some (endg L) else none
/-- The last piece that begins at an offset or ahead of it; the first one, where none does. -/
def pcAt (L : List Pc) (o : Int) : Nat → Nat
  | 0 => 0
  | k + 1 => if o < (gc L (k + 1)).f then pcAt L o k else k + 1
theorem pcAt_le (L : List Pc) (o : Int) : ∀ k, pcAt L o k ≤ k
  | 0 => Nat.le_refl _
  | k + 1 => by
    unfold pcAt
    have := pcAt_le L o k
    split <;> omega
theorem pcAt_at (L : List Pc) (o : Int) : ∀ k, pcAt L o k = 0 ∨ (gc L (pcAt L o k)).f ≤ o
  | 0 => .inl rfl
  | k + 1 => by
    unfold pcAt
    split
    · exact pcAt_at L o k
    · rename_i h
      exact .inr (by omega)
theorem pcAt_next (L : List Pc) (o : Int) : ∀ k j, pcAt L o k < j → j ≤ k → o < (gc L j).f
  | 0, j, h1, h2 => by
    have : pcAt L o 0 = 0 := rfl
    omega
  | k + 1, j, h1, h2 => by
    unfold pcAt at h1
    split at h1
    · rename_i h
      by_cases e : j = k + 1
      · subst e; exact h
      · exact pcAt_next L o k j h1 (by omega)
    · omega
/-- The text that is told at an offset. -/
def rdAt (L : List Pc) (o : Int) : ByteArray := rtx (gc L (pcAt L o (L.length - 1))).s (pl (gc L (pcAt L o (L.length - 1))).s 0 (o - (gc L (pcAt L o (L.length - 1))).f).toNat)
open Classical in
noncomputable def readRes (L : List Pc) (B o : Int) : Option ByteArray := if GoodG L B ∧ B ≤ o ∧ o < endg L then some (rdAt L o) else none
/-- Where an offset lies. -/
theorem GoodG.spot {L : List Pc} {B o : Int} (h : GoodG L B) (h1 : B ≤ o) (h2 : o < endg L) : pcAt L o (L.length - 1) < L.length ∧ (gc L (pcAt L o (L.length - 1))).f = atg L (pcAt L o (L.length - 1)) ∧ atg L (pcAt L o (L.length - 1)) ≤ o ∧ o < atg L (pcAt L o (L.length - 1) + 1) := by
  have ho := h.one
  have hle := pcAt_le L o (L.length - 1)
  have hat := pcAt_at L o (L.length - 1)
  have hnx := pcAt_next L o (L.length - 1)
  obtain ⟨i, hi⟩ : ∃ i, i = pcAt L o (L.length - 1) := ⟨_, rfl⟩
  rw [← hi] at hle hat hnx ⊢
  have hil : i < L.length := by omega
  have hf := (h.ps i hil).2.1
  refine ⟨hil, hf, ?_, ?_⟩
  · rcases hat with e | e
    · subst e
      have := h.b0
      show (gc L 0).f ≤ o
      omega
    · omega
  · by_cases e : i + 1 < L.length
    · have h3 := hnx (i + 1) (by omega) (by omega)
      rw [(h.ps (i + 1) e).2.1] at h3
      exact h3
    · have e2 : i + 1 = L.length := by omega
      rw [e2]
      exact h2
/-- What is told at an offset is among all records. -/
theorem GoodG.read {L : List Pc} {B o : Int} (h : GoodG L B) (h1 : B ≤ o) (h2 : o < endg L) : (allG L B).getD (o - B).toNat ByteArray.empty = rdAt L o := by
  obtain ⟨a, b, c, d⟩ := h.spot h1 h2
  exact alk_get h h1 _ a c d L.length a (Nat.le_refl _)
end Go.Proofs.YtapffbbmofhpobaDoor.L6

namespace Go.Proofs.YtapffbbmofhpobaDoor.L6
open Go.RowKit L1
set_option linter.unusedVariables false

/-- A piece cut at an offset. -/
def cutP (p : Pc) (o : Int) : Pc := ⟨p.f, p.s.extract 0 (pl p.s 0 (o - p.f).toNat), ix (p.s.extract 0 (pl p.s 0 (o - p.f).toNat))⟩
/-- The piece that is cut. -/
def cutK (L : List Pc) (o : Int) : Nat := pcAt L (o - 1) (L.length - 1)
def cutL (L : List Pc) (o : Int) : List Pc := L.take (cutK L o) ++ [cutP (gc L (cutK L o)) o]
theorem cutK_lt {L : List Pc} {o : Int} (h : 1 ≤ L.length) : cutK L o < L.length := by
  have := pcAt_le L (o - 1) (L.length - 1)
  unfold cutK
  omega
theorem cutL_len {L : List Pc} {o : Int} (h : 1 ≤ L.length) : (cutL L o).length = cutK L o + 1 := by
  have := cutK_lt (o := o) h
  unfold cutL
  simp
  omega
/-- Where a good log is cut within it, so many records of the piece stay. -/
theorem cut_spot {L : List Pc} {B o : Int} (h : GoodG L B) (h1 : B ≤ o) (h2 : o ≤ endg L) : (gc L (cutK L o)).f ≤ o ∧ o ≤ (gc L (cutK L o)).f + (cnt (gc L (cutK L o)).s : Int) := by
  have hone := h.one
  have hK := cutK_lt (o := o) hone
  have hf : (gc L (cutK L o)).f = atg L (cutK L o) := (h.ps (cutK L o) hK).2.1
  refine ⟨?_, ?_⟩
  · rcases pcAt_at L (o - 1) (L.length - 1) with e | e
    · have e' : cutK L o = 0 := e
      rw [e']
      have := h.b0
      omega
    · have e' : (gc L (cutK L o)).f ≤ o - 1 := e
      omega
  · by_cases e : cutK L o = L.length - 1
    · have := end_last hone h.ps
      rw [e]
      omega
    · have hn := pcAt_next L (o - 1) (L.length - 1) (cutK L o + 1) (by show cutK L o < _; omega) (by omega)
      have hf2 : (gc L (cutK L o + 1)).f = atg L (cutK L o + 1) := (h.ps (cutK L o + 1) (by omega)).2.1
      have hs : atg L (cutK L o + 1) = (gc L (cutK L o)).f + (cnt (gc L (cutK L o)).s : Int) := by
        show atg L (cutK L o + 1) = _
        rw [hf]
        rfl
      omega
/-- A piece ahead of the cut is whole there. -/
theorem cut_ahead {L : List Pc} {B o : Int} (h : GoodG L B) (i : Nat) (hi : i < cutK L o) : (gc L i).f < o ∧ (gc L i).f + (cnt (gc L i).s : Int) < o := by
  have hone := h.one
  have hK := cutK_lt (o := o) hone
  have hf : (gc L (cutK L o)).f = atg L (cutK L o) := (h.ps (cutK L o) hK).2.1
  have hfi : (gc L i).f = atg L i := (h.ps i (by omega)).2.1
  have hs : atg L (i + 1) = (gc L i).f + (cnt (gc L i).s : Int) := by rw [hfi]; rfl
  have hm := atg_mono2 L (show i + 1 ≤ cutK L o by omega)
  rcases pcAt_at L (o - 1) (L.length - 1) with e | e
  · have e' : cutK L o = 0 := e
    omega
  · have e' : (gc L (cutK L o)).f ≤ o - 1 := e
    omega
theorem cut_behind {L : List Pc} {B o : Int} (h : GoodG L B) (i : Nat) (hi : cutK L o < i) (hl : i < L.length) : o ≤ (gc L i).f := by
  have := pcAt_next L (o - 1) (L.length - 1) i hi (by omega)
  omega
/-- What CutFrom answers. -/
def CutOk (L : List Pc) (B o : Int) : Prop := GoodG L B ∧ B ≤ o ∧ o ≤ endg L
structure CutIs (L : List Pc) (B o : Int) (L' : List Pc) (B' : Int) (ok : Bool) : Prop where
  yes : CutOk L B o → L' = cutL L o ∧ B' = B ∧ ok = true
  no : ¬ CutOk L B o → L' = [] ∧ B' = 0 ∧ ok = false
open Classical in
theorem cut_is (L : List Pc) (B o : Int) : ∃ L' B' ok, CutIs L B o L' B' ok := by
  by_cases h : CutOk L B o
  · exact ⟨_, _, _, fun _ => ⟨rfl, rfl, rfl⟩, fun h' => absurd h h'⟩
  · exact ⟨_, _, _, fun h' => absurd h' h, fun _ => ⟨rfl, rfl, rfl⟩⟩
theorem cutP_few {p : Pc} {o : Int} (h : GoodP p) : (cutP p o).x.length ≤ 60 := by
  unfold cutP
  simp only
  have h1 := cnt_le (p.s.extract 0 (pl p.s 0 (o - p.f).toNat))
  have h2 : (p.s.extract 0 (pl p.s 0 (o - p.f).toNat)).size ≤ 60 := by simp; have := h.1; omega
  unfold ix
  rw [ixk_len]
  omega
theorem CutIs.few {L L' : List Pc} {B o B' : Int} {ok : Bool} (h : CutIs L B o L' B' ok) : L'.length ≤ 20 ∧ ∀ i, i < L'.length → (gc L' i).x.length ≤ 60 := by
  by_cases hc : CutOk L B o
  · obtain ⟨rfl, _, _⟩ := h.yes hc
    have hone := hc.1.one
    have hmany := hc.1.many
    have hK := cutK_lt (o := o) hone
    refine ⟨by rw [cutL_len hone]; omega, fun i hi => ?_⟩
    rw [cutL_len hone] at hi
    by_cases e : i < cutK L o
    · rw [show gc (cutL L o) i = gc L i by unfold cutL; simp [gc, List.getD, List.getElem?_append_left (show i < (L.take (cutK L o)).length by simp; omega), e]]
      have hg := (hc.1.ps i (by omega)).1
      rw [hg.2.2]
      unfold ix
      rw [ixk_len]
      have := good_cnt hg
      omega
    · obtain rfl : i = cutK L o := by omega
      rw [show gc (cutL L o) (cutK L o) = cutP (gc L (cutK L o)) o by unfold cutL; simp [gc, List.getD, Nat.min_eq_left (Nat.le_of_lt hK)]]
      exact cutP_few (hc.1.ps _ hK).1
  · obtain ⟨rfl, _, _⟩ := h.no hc
    exact ⟨by simp, fun i hi => by simp at hi⟩
end Go.Proofs.YtapffbbmofhpobaDoor.L6

namespace Go.Proofs.YtapffbbmofhpobaDoor.L6
open Go.RowKit L1
set_option linter.unusedVariables false

theorem elem_pc : Tryd.prog.elem 26 = 37 := by kernel_rfl
theorem size_pc : (Tryd.prog.info? 37).map (·.size) = some 3 := by kernel_rfl
theorem run_size_pc (w : World) : (sizeOf (Tryd.prog.elem 26)).run Tryd.prog w = .ok 3 w := by
  rw [elem_pc]
  cases hq : Tryd.prog.info? 37 with
  | none => have := size_pc; rw [hq] at this; cases this
  | some i =>
    have hi : i.size = 3 := by have := size_pc; rw [hq] at this; simpa using this
    simp [sizeOf, typeInfo, hq, hi]
theorem slice_toC (g n p : Nat) (hp : p ≤ n) : ∀ w, (Instr.slice 26 (.slice (some ⟨g, 0, none⟩) n n) none (some (.int .i64 (p : Int))) none).run Tryd.prog w = .ok (.slice (some ⟨g, 0, none⟩) p n) w := fun w => by
  rw [run_slice_h w 26 _ n n (by rw [elem_pc]; exact Tryd.underlying26) .i64 (p : Int) (by omega) (by omega), run_size_pc]
  simp [sliced, Addr.add]
theorem slice_fromC (g n p : Nat) (hp : p < n) : ∀ w, (Instr.slice 26 (.slice (some ⟨g, 0, none⟩) n n) (some (.int .i64 (p : Int))) none none).run Tryd.prog w = .ok (.slice (some ⟨g, p * 3, none⟩) (n - p) (n - p)) w := fun w => by
  rw [run_slice_l w 26 _ n n (by rw [elem_pc]; exact Tryd.underlying26) .i64 (p : Int) (by omega) (by omega), run_size_pc]
  have h1 : ¬ n = p := by omega
  simp [sliced, h1, Addr.add]
  try (intro h; omega)
theorem slice_endC (g n : Nat) : ∃ a' c', ∀ w, (Instr.slice 26 (.slice (some ⟨g, 0, none⟩) n n) (some (.int .i64 (n : Int))) none none).run Tryd.prog w = .ok (.slice a' 0 c') w := by
  refine ⟨some ⟨g, 0, none⟩, 0, fun w => ?_⟩
  rw [run_slice_l w 26 _ n n (by rw [elem_pc]; exact Tryd.underlying26) .i64 (n : Int) (by omega) (by omega), run_size_pc]
  simp [sliced]
theorem clear_none (a' : Option Addr) (c' : Nat) (ty : TypeId) : ∀ w, (Builtin.clear_ #[26] ty #[.slice a' 0 c']).run Tryd.prog w = .ok (.tuple #[]) w := fun w => by
  cases a' <;> simp [Builtin.clear_, run_underlying Tryd.underlying26]
theorem zero_pc (w : World) : (zeroValue 37).run Tryd.prog w = .ok (.agg #[.int .i64 0, .string ByteArray.empty, .slice none 0 0]) w := by
  obtain ⟨i0, hi, hz0, hz1, hz2⟩ := info_parts info_piece
  simp [zeroValue, typeInfo, hi, hz0]
theorem zeros_len (z : Value) (k : Nat) (hz : z.cells.size = k) (n : Nat) : (Builtin.zeroCells z.cells n).toList.length = n * k := by simp [Builtin.zeroCells, hz]
theorem zeros_one (n : Nat) : ∀ v ∈ (Builtin.zeroCells (Value.agg #[.int .i64 0, .string ByteArray.empty, .slice none 0 0]).cells n).toList, v.oneCell' = true := by
  intro v hv
  simp only [Builtin.zeroCells, Value.cells, Array.toList_map, List.mem_map] at hv
  obtain ⟨i, _, rfl⟩ := hv
  have h3 : (#[Value.int .i64 0, .string ByteArray.empty, .slice none 0 0] : Array Value).size = 3 := rfl
  have hm : i % 3 = 0 ∨ i % 3 = 1 ∨ i % 3 = 2 := by omega
  rcases hm with e | e | e <;> simp [e] <;> rfl
/-- The pieces behind a place are cleared: those ahead of it are a row of their own. -/
theorem clear_short {w : World} {base g n p : Nat} {xs : List Value} (hp : p < n) (h : w.ownsRow base 37 3 (.slice (some ⟨g, 0, none⟩) n n) n xs) (ty : TypeId) :
    ∃ w', (Builtin.clear_ #[26] ty #[.slice (some ⟨g, p * 3, none⟩) (n - p) (n - p)]).run Tryd.prog w = .ok (.tuple #[]) w' ∧ w'.ownsRow base 37 3 (.slice (some ⟨g, 0, none⟩) p n) p (xs.take (p * 3)) ∧ w.grownBy w' (some g) := by
  obtain ⟨hl, h2⟩ := h
  rcases h2 with ⟨hv, _⟩ | ⟨g', cap', cur, hv, hbg, hg, hc1, hc2, hc3, hc4⟩
  · cases hv
  · simp at hv
    obtain ⟨rfl, rfl⟩ := hv
    obtain ⟨cs, hcs⟩ : ∃ cs, cs = (Builtin.zeroCells (Value.agg #[.int .i64 0, .string ByteArray.empty, .slice none 0 0]).cells (n - p)).toList := ⟨_, rfl⟩
    have hlen : cs.length = (n - p) * 3 := by rw [hcs]; exact zeros_len _ 3 rfl _
    have hst := run_storeCells_at Tryd.prog g (p * 3) 37 cs 0 cur w hg (by omega) (by rw [hcs]; exact zeros_one _)
    simp only [Nat.add_zero] at hst
    refine ⟨w.setRow g (cur.toList.take (p * 3) ++ cs ++ cur.toList.drop (p * 3 + cs.length)).toArray, ?_, ⟨by rw [List.length_take, hl]; omega, .inr ⟨g, n, (cur.toList.take (p * 3) ++ cs ++ cur.toList.drop (p * 3 + cs.length)).toArray, rfl, hbg, setRow_heap w g cur _ 37 _ hg, Nat.le_of_lt hp, hc2, ?_, ?_⟩⟩, ⟨rfl, rfl, rfl, by simp [World.setRow], fun q hq hne => setRow_other w g q _ (fun e => hne (by rw [e]))⟩⟩
    · obtain ⟨m, hm⟩ : ∃ m, n - p = m + 1 := ⟨n - p - 1, by omega⟩
      rw [hm] at hcs ⊢
      simp only [Builtin.clear_, run_underlying Tryd.underlying26, Sem.run_bind, Result.andThen_ok, zero_pc, List.getElem?_toArray, List.getElem?_cons_zero, ← hcs, hst]
      rfl
    · simp
      omega
    · simp only
      rw [List.append_assoc, List.take_append_of_le_length (by simp; omega), ← hc4, List.take_take, List.take_take]
      simp
      first | rfl | omega | (congr 1; omega)
theorem flatC_take : ∀ (M : List PV) (k : Nat), (flatC M).take (k * 3) = flatC (M.take k)
  | [], k => by simp [flatC]
  | p :: M, 0 => by simp [flatC]
  | p :: M, k + 1 => by
    have ih := flatC_take M k
    rw [show (k + 1) * 3 = k * 3 + 1 + 1 + 1 by omega]
    simp only [flatC, List.take_succ_cons, ih]
theorem take_getD (M : List PV) (k i : Nat) (h : i < k) : (M.take k).getD i eV = M.getD i eV := by simp [List.getD, h]
/-- The first pieces of a log that is a call's own. -/
theorem OwC.short {w w' : World} {base g n cap p : Nat} {M : List PV} (h : OwC w base (.slice (some ⟨g, 0, none⟩) n cap) n M) (hp : p ≤ n) (hr : w'.ownsRow base 37 3 (.slice (some ⟨g, 0, none⟩) p cap) p (flatC (M.take p))) (hg : w.grownBy w' (some g)) : OwC w' base (.slice (some ⟨g, 0, none⟩) p cap) p (M.take p) := by
  refine ⟨by rw [List.length_take, h.len]; omega, hr, fun i hi => ?_, fun i j hij hj => ?_⟩
  · rw [take_getD M p i hi]
    exact own_keptC (h.idx i (by omega)) hg (fun b hb e => by
      simp at e
      subst e
      exact own_two h.row (h.idx i (by omega)) int_piece g rfl hb)
  · rw [take_getD M p i (by omega), take_getD M p j hj]
    exact h.apart i j hij (by omega)

set_option maxRecDepth 100000 in
set_option maxHeartbeats 1000000 in
theorem shorten_any (base g n p : Nat) (M : List PV) (w : World) (hp : p ≤ n) (hn : n ≤ 1048576) (ho : OwC w base (.slice (some ⟨g, 0, none⟩) n n) n M) :
    Calls Tryd.prog 32 #[.slice (some ⟨g, 0, none⟩) n n, .int .i64 (p : Int)] w fun e w' => e = .returned (.slice (some ⟨g, 0, none⟩) p n) ∧ OwC w' base (.slice (some ⟨g, 0, none⟩) p n) p (M.take p) ∧ w.grownBy w' (some g) := by
  have hto := slice_toC g n p hp
  by_cases hpn : p < n
  · have hfr := slice_fromC g n p hpn
    obtain ⟨w', hclr, hown, hgr⟩ := clear_short hpn ho.row 0
    rw [flatC_take] at hown
    have R := hide (And.intro (ho.short hp hown hgr) hgr)
    have hle : (p : Int) ≤ (n : Int) := by omega
    clear ho hown hgr
    go_enter Tryd.func32, Tryd.ntmps32
    go_wp2
    go_ret
    exact ⟨rfl, R.out⟩
  · obtain rfl : p = n := by omega
    obtain ⟨a', c', hfr⟩ := slice_endC g p
    have hclr := clear_none a' c' 0
    have R := hide (show OwC w base (.slice (some ⟨g, 0, none⟩) p p) p (M.take p) ∧ w.grownBy w (some g) from ⟨by rw [List.take_of_length_le (by rw [ho.len]; exact Nat.le_refl _)]; exact ho, World.grownBy.refl _ _⟩)
    clear ho hpn
    go_enter Tryd.func32, Tryd.ntmps32
    go_wp2
    go_ret
    exact ⟨rfl, R.out⟩
end Go.Proofs.YtapffbbmofhpobaDoor.L6
