/-
  Contract of the laws' own helper markIntS from whatever number on.
  Contract of the laws' own helper heldIntS from whatever number on.
  Contracts of the laws' own helpers laws.markTell and laws.heldTell over a world of tellers in memory of its own: all that it owns is written over, and found so.
  What the laws of chapter 10 keep of a world of tellers: its box, its rows. Nothing of the program's text is proved here.
  A slice of notes that came in, opened at every index.
  A slice of such structs that came in, opened at every index.
  A world of tellers that came in by value, opened: its five fields, and what lies behind them.
  Contract of the laws' own helper szStringS.
-/
import Derived.Test.YthmekhhfihjclagBundle6
import Derived.Test.YthmekhhfihjclagBundle2
import Derived.Test.YthmekhhfihjclagBundle5
import Derived.Deep.DeepCutAuto
import Derived.Test.YthmekhhfihjclagBundle1
import Derived.Deep.Slices
import Derived.ChangeSame
import Derived.OpenShut
import Derived.Lib.SmallJoins
import Derived.ChangeSlices
namespace Go.Proofs.Ythmekhhfihjclag.L4
open Go.RowKit L1
set_option linter.unusedVariables false

def mkC (c : Int) (n : Nat) : List Int := (List.range n).map fun i : Nat => c + (i : Int)
theorem mkC_len (c : Int) (n : Nat) : (mkC c n).length = n := by simp [mkC]
theorem mkC_get (c : Int) (n j : Nat) (h : j < n) : (mkC c n).getD j 0 = c + (j : Int) := by simp [mkC, List.getD, h]

set_option maxRecDepth 100000 in
set_option maxHeartbeats 1000000 in
theorem markIntS_from (base : Nat) (v : Value) (xs : List Int) (n : Nat) (w : World) (c : Int) (hc0 : 0 ≤ c) (hc1 : c ≤ 4294967296) (hn2 : n ≤ 1048576) (ho : w.ownsRow base 3 1 v n (xs.map (Value.int .i64))) :
    Calls Try.prog 62 #[v, .int .i64 c] w fun e w' => e = .returned (.int .i64 (c + (n : Int))) ∧ w'.ownsRow base 3 1 v n ((mkC c n).map (Value.int .i64)) ∧ Below base w w' ∧ w.grownBy w' v.ownBlock := by
  have hl0 := ho.1
  simp at hl0
  by_cases hn0 : n = 0
  · subst hn0
    obtain ⟨a, cap, rfl, _, hl⟩ := own_form ho
    have hx : xs = [] := List.eq_nil_of_length_eq_zero hl
    subst hx
    have HO := hide ho
    clear ho hl hl0
    go_enter Try.func62, Try.ntmps62
    go_wp2
    go_loop [1, 5] (fun k i => k = .int .i64 c ∧ i = .int .i64 0) (fun _ _ => 0)
    case atStart => exact ⟨rfl, rfl⟩
    case round =>
      obtain ⟨rfl, rfl⟩ := hrel
      go_wp2
      go_ret
      exact ⟨by simp, HO.out, Below.refl _ _, World.grownBy.refl _ _⟩
  · obtain ⟨g, cap, rfl⟩ : ∃ g cap, v = .slice (some ⟨g, 0, none⟩) n cap := by
      rcases ho.2 with ⟨_, h0⟩ | ⟨g, cap, cur, hv, _⟩
      · omega
      · exact ⟨g, cap, hv⟩
    have hge := own_ge ho
    have HO := hide ho
    have HL := hide hl0
    clear ho hl0 hn0
    go_enter Try.func62, Try.ntmps62
    go_wp2
    go_loopw [1, 5] (fun k i wr => ∃ (j : Nat) (ys : List Int), j ≤ n ∧ i = .int .i64 j ∧ k = .int .i64 (c + (j : Int)) ∧ ys.length = n ∧ Hid (∀ t, t < j → ys.getD t 0 = (mkC c n).getD t 0) ∧
        wr.ownsRow base 3 1 (.slice (some ⟨g, 0, none⟩) n cap) n (ys.map (Value.int .i64)) ∧ Below base w wr ∧ w.grownBy wr (some g)) (fun _ i _ => n - (intOf i).toNat)
    case atStart => exact ⟨0, xs, by omega, rfl, by simp, HL.out, fun t ht => absurd ht (Nat.not_lt_zero _), HO.out, Below.refl _ _, World.grownBy.refl _ _⟩
    case round =>
      obtain ⟨j, ys, hj, rfl, rfl, hyl, HY, hown, hbel, hgr⟩ := hrel
      by_cases hlt : j < n
      · have hltI : (j : Int) < (n : Int) := by omega
        have hcl := hown.cellAt j (by omega)
        have hfr := hown.frozenAt j
        obtain ⟨u, hu⟩ : ∃ u, wr.cell? ⟨g, j, none⟩ = some u := ⟨_, hcl.trans (List.getElem?_eq_getElem (by simp; omega))⟩
        have hst := hown.stored j (.int .i64 (c + (j : Int)))
        have R : ∃ (j' : Nat) (ys' : List Int), j' ≤ n ∧ Value.int .i64 ((j : Int) + 1) = .int .i64 j' ∧ Value.int .i64 (c + (j : Int) + 1) = .int .i64 (c + (j' : Int)) ∧ ys'.length = n ∧ Hid (∀ t, t < j' → ys'.getD t 0 = (mkC c n).getD t 0) ∧
            (wr.setCell ⟨g, j, none⟩ (.int .i64 (c + (j : Int)))).ownsRow base 3 1 (.slice (some ⟨g, 0, none⟩) n cap) n (ys'.map (Value.int .i64)) ∧ Below base w (wr.setCell ⟨g, j, none⟩ (.int .i64 (c + (j : Int)))) ∧ w.grownBy (wr.setCell ⟨g, j, none⟩ (.int .i64 (c + (j : Int)))) (some g) := by
          refine ⟨j + 1, ys.set j (c + (j : Int)), by omega, by simp, by simp; omega, by simpa using hyl, ?_, by rw [List.map_set]; exact hst.1, hbel.setCell (p := ⟨g, j, none⟩) hge _, hgr.trans hst.2⟩
          intro t ht
          by_cases e : t = j
          · subst e
            rw [mkC_get c n t (by omega)]
            simp [List.getD, hyl, hlt]
          · rw [← HY.out t (by omega)]
            simp [List.getD, Ne.symm e]
        have HR := hide R
        clear hcl hst R hyl
        go_wp2
        go_roundw
        case rel => exact HR.out
        case measure => simp [intOf]; omega
      · obtain rfl : j = n := by omega
        have e : ys = mkC c j := list_same (mkC_len c j) hyl (fun t ht => HY.out t ht)
        subst e
        have hltI : ¬ (j : Int) < (j : Int) := by omega
        clear hyl
        go_wp2
        go_ret
        exact ⟨rfl, hown, hbel, hgr⟩

end Go.Proofs.Ythmekhhfihjclag.L4

namespace Go.Proofs.Ythmekhhfihjclag.L4
open Go.RowKit L1
set_option linter.unusedVariables false

set_option maxRecDepth 100000 in
set_option maxHeartbeats 1000000 in
theorem heldIntS_from (a : Option Addr) (n cap : Nat) (c : Int) (w : World) (hc0 : 0 ≤ c) (hc1 : c ≤ 4294967296) (hn2 : n ≤ 1048576) (hs : Sl w a (mkC c n)) :
    Calls Try.prog 66 #[.slice a n cap, .int .i64 c] w fun e w' => e = .returned (.int .i64 (c + (n : Int))) ∧ Below w.heap.size w w' := by
  have HS := hide hs
  clear hs
  go_enter Try.func66, Try.ntmps66
  go_wp2
  go_loop [1, 5] (fun k i => ∃ j : Nat, j ≤ n ∧ i = .int .i64 j ∧ k = .int .i64 (c + (j : Int))) (fun _ i => n - (intOf i).toNat)
  case atStart => exact ⟨0, by omega, rfl, by simp⟩
  case round =>
    obtain ⟨j, hj, rfl, rfl⟩ := hrel
    by_cases hlt : j < n
    · obtain ⟨b, off, rfl, hc⟩ := HS.out j (by rw [mkC_len]; exact hlt)
      rw [mkC_get c n j hlt] at hc
      have hltI : (j : Int) < (n : Int) := by omega
      go_wp2
      go_round
      case rel => exact ⟨j + 1, by omega, by go_num, by go_num⟩
      case measure => simp [intOf]; omega
    · have hltI : ¬ (j : Int) < (n : Int) := by omega
      obtain rfl : j = n := by omega
      go_wp2
      go_ret
      exact ⟨rfl, Below.refl _ _⟩
end Go.Proofs.Ythmekhhfihjclag.L4

namespace Go.Proofs.Ythmekhhfihjclag.L10
open Go.RowKit L1 L4 Own Str Nte Tri
set_option linter.unusedVariables false

/-- How many texts the first tellers have. -/
def pre (G : List (List ByteArray)) : Nat → Nat
  | 0 => 0
  | j + 1 => pre G j + (G.getD j []).length
theorem pre_mono (G : List (List ByteArray)) : ∀ j k, j ≤ k → pre G j ≤ pre G k
  | j, 0, h => by have : j = 0 := by omega
                  subst this; exact Nat.le_refl _
  | j, k + 1, h => by
    by_cases e : j = k + 1
    · subst e; exact Nat.le_refl _
    · have := pre_mono G j k (by omega)
      simp only [pre]
      omega
def mkUp (c : Int) (G : List (List ByteArray)) (j : Nat) : List (List ByteArray) := (List.range G.length).map fun i => if i < j then mkS (c + (pre G i : Int)) (G.getD i []).length else G.getD i []
theorem mkUp_len (c : Int) (G : List (List ByteArray)) (j : Nat) : (mkUp c G j).length = G.length := by simp [mkUp]
theorem mkUp_get (c : Int) (G : List (List ByteArray)) (j i : Nat) (hi : i < G.length) : (mkUp c G j).getD i [] = if i < j then mkS (c + (pre G i : Int)) (G.getD i []).length else G.getD i [] := by
  simp [mkUp, List.getD, hi]
theorem mkUp_gl (c : Int) (G : List (List ByteArray)) (j i : Nat) (hi : i < G.length) : ((mkUp c G j).getD i []).length = (G.getD i []).length := by
  rw [mkUp_get c G j i hi]
  split
  · rw [mkS_len]
  · rfl
theorem getD_setS (G : List (List ByteArray)) (k i : Nat) (x : List ByteArray) (hi : i < G.length) : (G.set k x).getD i [] = if k = i then x else G.getD i [] := by
  simp only [List.getD, List.getElem?_set]
  by_cases h : k = i
  · subst h; simp [hi]
  · simp [h]
theorem listSS_same {X Y : List (List ByteArray)} (h1 : X.length = Y.length) (h : ∀ i, i < X.length → X.getD i [] = Y.getD i []) : X = Y := by
  apply List.ext_getElem?
  intro j
  by_cases hj : j < X.length
  · have h := h j hj
    simp only [List.getD, List.getElem?_eq_getElem hj, List.getElem?_eq_getElem (show j < Y.length by omega), Option.getD_some] at h
    rw [List.getElem?_eq_getElem hj, List.getElem?_eq_getElem (show j < Y.length by omega), h]
  · rw [List.getElem?_eq_none (by omega), List.getElem?_eq_none (by omega)]
theorem mkUp_zero (c : Int) (G : List (List ByteArray)) : mkUp c G 0 = G := listSS_same (mkUp_len c G 0) fun i hi => by
  rw [mkUp_len] at hi
  rw [mkUp_get c G 0 i hi, if_neg (by omega)]
theorem mkUp_succ (c : Int) (G : List (List ByteArray)) (j : Nat) (hj : j < G.length) : mkUp c G (j + 1) = (mkUp c G j).set j (mkS (c + (pre G j : Int)) (G.getD j []).length) := listSS_same (by simp [mkUp_len]) fun i hi => by
  rw [mkUp_len] at hi
  rw [mkUp_get c G (j + 1) i hi, getD_setS _ _ _ _ (by rw [mkUp_len]; exact hi), mkUp_get c G j i hi]
  by_cases e : j = i
  · subst e
    rw [if_pos (by omega), if_pos rfl]
  · rw [if_neg e]
    by_cases h : i < j
    · rw [if_pos h, if_pos (by omega)]
    · rw [if_neg h, if_neg (by omega)]
structure SmT (m : Tm) : Prop where
  p : pre m.T m.T.length ≤ 1048576
  t : m.T.length ≤ 1048576
  s : ∀ i, i < m.T.length → (m.T.getD i []).length ≤ 1048576
  h : m.hd.length ≤ 1048576
  l : m.ln.length ≤ 1048576
  g : m.lg.length ≤ 1048576
  n : m.nx.length ≤ 1048576
abbrev c1 (m : Tm) : Int := 1 + (pre m.T m.T.length : Int)
abbrev c2 (m : Tm) : Int := c1 m + (m.hd.length : Int)
abbrev c3 (m : Tm) : Int := c2 m + 4 * (m.ln.length : Int)
abbrev c4 (m : Tm) : Int := c3 m + 3 * (m.lg.length : Int)
abbrev c5 (m : Tm) : Int := c4 m + (m.nx.length : Int)
abbrev m1 (m : Tm) : Tm := { m with T := mkUp 1 m.T m.T.length }
abbrev m2 (m : Tm) : Tm := { m with T := mkUp 1 m.T m.T.length, hd := mkC (c1 m) m.hd.length }
abbrev m3 (m : Tm) : Tm := { m with T := mkUp 1 m.T m.T.length, hd := mkC (c1 m) m.hd.length, ln := mk4 (c2 m) m.ln.length }
abbrev m4 (m : Tm) : Tm := { m with T := mkUp 1 m.T m.T.length, hd := mkC (c1 m) m.hd.length, ln := mk4 (c2 m) m.ln.length, lg := mk3 (c3 m) m.lg.length }
abbrev m5 (m : Tm) : Tm := { m with T := mkUp 1 m.T m.T.length, hd := mkC (c1 m) m.hd.length, ln := mk4 (c2 m) m.ln.length, lg := mk3 (c3 m) m.lg.length, nx := mkC (c4 m) m.nx.length }
section
variable {w w' : World} {S : Nat → Prop} {V : List Value} {vT vH vL vG vN : Value} {m : Tm}
theorem TW.mark (h : TW w S V vT vH vL vG vN m) (k : Nat) (hk : k < m.T.length) (l' : List ByteArray) (hown : w'.ownsRow 0 9 1 (V.getD k nilV) l'.length (mapS l')) (hg : w.grownBy w' (V.getD k nilV).ownBlock) : TW w' S V vT vH vL vG vN { m with T := m.T.set k l' } := by
  have hl : ({ m with T := m.T.set k l' } : Tm).T.length = m.T.length := by simp
  have ne : ∀ {c n : Nat} {t : TypeId} {v : Value} {xs : List Value}, w.ownsRow 0 t c v n xs → 9 ≠ t → ∀ q, v.ownBlock = some q → (V.getD k nilV).ownBlock ≠ some q := fun ho ht q hq e => own_twoO (h.s k hk) ho ht q e hq
  refine ⟨?_, fun i hi => ?_, fun i j q hi hj hij e => ?_, own_pastO h.h hg (ne h.h t_si), own_pastO h.l hg (ne h.l t_sn), own_pastO h.g hg (ne h.g t_sg), own_pastO h.n hg (ne h.n t_si), h.hn, h.sT, fun i hi => ?_, h.sH, h.sL, h.sG, h.sN⟩
  · rw [hl]
    exact own_pastO h.t hg (ne h.t t_ts.symm)
  · rw [hl] at hi
    show World.ownsRow _ 0 _ 1 (V.getD i nilV) ((m.T.set k l').getD i []).length (mapS ((m.T.set k l').getD i []))
    rw [getD_setS m.T k i l' hi]
    split
    · rename_i e
      subst e
      exact hown
    · rename_i e
      exact own_pastO (h.s i hi) hg (fun q hq e2 => h.ap i k q hi hk (fun e3 => e e3.symm) hq e2)
  · rw [hl] at hi hj
    exact h.ap i j q hi hj hij e
  · rw [hl] at hi
    exact h.sV i hi
theorem TW.markH (h : TW w S V vT vH vL vG vN m) (y : List Int) (hown : w'.ownsRow 0 3 1 vH y.length (y.map (Value.int .i64))) (hg : w.grownBy w' vH.ownBlock) : TW w' S V vT vH vL vG vN { m with hd := y } := by
  have ne : ∀ {c n : Nat} {t : TypeId} {v : Value} {xs : List Value}, w.ownsRow 0 t c v n xs → 3 ≠ t → ∀ q, v.ownBlock = some q → vH.ownBlock ≠ some q := fun ho ht q hq e => own_twoO h.h ho ht q e hq
  exact ⟨own_pastO h.t hg (ne h.t t_ti.symm), fun i hi => own_pastO (h.s i hi) hg (ne (h.s i hi) t_si.symm), h.ap, hown, own_pastO h.l hg (ne h.l t_in), own_pastO h.g hg (ne h.g t_ig), own_pastO h.n hg (fun q hq e => h.hn q e hq), h.hn, h.sT, h.sV, h.sH, h.sL, h.sG, h.sN⟩
theorem TW.markN (h : TW w S V vT vH vL vG vN m) (y : List Int) (hown : w'.ownsRow 0 3 1 vN y.length (y.map (Value.int .i64))) (hg : w.grownBy w' vN.ownBlock) : TW w' S V vT vH vL vG vN { m with nx := y } := by
  have ne : ∀ {c n : Nat} {t : TypeId} {v : Value} {xs : List Value}, w.ownsRow 0 t c v n xs → 3 ≠ t → ∀ q, v.ownBlock = some q → vN.ownBlock ≠ some q := fun ho ht q hq e => own_twoO h.n ho ht q e hq
  exact ⟨own_pastO h.t hg (ne h.t t_ti.symm), fun i hi => own_pastO (h.s i hi) hg (ne (h.s i hi) t_si.symm), h.ap, own_pastO h.h hg (fun q hq e => h.hn q hq e), own_pastO h.l hg (ne h.l t_in), own_pastO h.g hg (ne h.g t_ig), hown, h.hn, h.sT, h.sV, h.sH, h.sL, h.sG, h.sN⟩
theorem TW.markL (h : TW w S V vT vH vL vG vN m) (y : List Nt) (hown : w'.ownsRow 0 77 4 vL y.length (flat4 y)) (hg : w.grownBy w' vL.ownBlock) : TW w' S V vT vH vL vG vN { m with ln := y } := by
  have ne : ∀ {c n : Nat} {t : TypeId} {v : Value} {xs : List Value}, w.ownsRow 0 t c v n xs → 77 ≠ t → ∀ q, v.ownBlock = some q → vL.ownBlock ≠ some q := fun ho ht q hq e => own_twoO h.l ho ht q e hq
  exact ⟨own_pastO h.t hg (ne h.t t_tn.symm), fun i hi => own_pastO (h.s i hi) hg (ne (h.s i hi) t_sn.symm), h.ap, own_pastO h.h hg (ne h.h t_in.symm), hown, own_pastO h.g hg (ne h.g t_ng), own_pastO h.n hg (ne h.n t_in.symm), h.hn, h.sT, h.sV, h.sH, h.sL, h.sG, h.sN⟩
theorem TW.markG (h : TW w S V vT vH vL vG vN m) (y : List Tr) (hown : w'.ownsRow 0 75 3 vG y.length (flat3 y)) (hg : w.grownBy w' vG.ownBlock) : TW w' S V vT vH vL vG vN { m with lg := y } := by
  have ne : ∀ {c n : Nat} {t : TypeId} {v : Value} {xs : List Value}, w.ownsRow 0 t c v n xs → 75 ≠ t → ∀ q, v.ownBlock = some q → vG.ownBlock ≠ some q := fun ho ht q hq e => own_twoO h.g ho ht q e hq
  exact ⟨own_pastO h.t hg (ne h.t t_tg.symm), fun i hi => own_pastO (h.s i hi) hg (ne (h.s i hi) t_sg.symm), h.ap, own_pastO h.h hg (ne h.h t_ig.symm), own_pastO h.l hg (ne h.l t_ng.symm), hown, own_pastO h.n hg (ne h.n t_ig.symm), h.hn, h.sT, h.sV, h.sH, h.sL, h.sG, h.sN⟩
end

set_option maxRecDepth 100000 in
set_option maxHeartbeats 2000000 in
theorem markStringSS_tw (S : Nat → Prop) (V : List Value) (aT : Option Addr) (n cT : Nat) (vH vL vG vN : Value) (m : Tm) (w : World) (hn : m.T.length = n) (hz : SmT m) (hW : TW w S V (.slice aT n cT) vH vL vG vN m) :
    Calls Try.prog 61 #[.slice aT n cT, .int .i64 1] w fun e w' => e = .returned (.int .i64 (c1 m)) ∧ TW w' S V (.slice aT n cT) vH vL vG vN (m1 m) ∧ Kept S w w' := by
  have hn5 : n ≤ 1048576 := by have := hz.t; omega
  have HW0 : Hid (TW w S V (.slice aT n cT) vH vL vG vN { m with T := mkUp 1 m.T 0 }) := by rw [mkUp_zero]; exact hide hW
  have HZ := hide hz
  have HN := hide hn
  have HA : Hid (0 < n → ∃ gb, aT = some ⟨gb, 0, none⟩) := hide (fun h0 => by
    rcases hW.t.2 with ⟨hv, h1⟩ | ⟨g, cap, cur, hv, _⟩
    · omega
    · obtain ⟨e, _, _⟩ := Value.slice.inj hv; exact ⟨g, e⟩)
  clear hW hz hn
  go_enter Try.func61, Try.ntmps61
  go_wp2
  go_loopw [1, 5] (fun k i wr => ∃ j : Nat, j ≤ n ∧ i = .int .i64 j ∧ k = .int .i64 (1 + (pre m.T j : Int)) ∧ Hid (TW wr S V (.slice aT n cT) vH vL vG vN { m with T := mkUp 1 m.T j }) ∧ Hid (Kept S w wr)) (fun _ i _ => n - (intOf i).toNat)
  case atStart => exact ⟨0, Nat.zero_le _, rfl, rfl, HW0, hide (Kept.refl S w)⟩
  case round =>
    obtain ⟨j, hj, rfl, rfl, HW, HK⟩ := hrel
    by_cases hlt : j < n
    · obtain ⟨gb, rfl⟩ := HA.out (by omega)
      have hltI : (j : Int) < (n : Int) := by omega
      have hj0 : (0 : Int) ≤ (j : Int) := by omega
      have hjG : j < m.T.length := by rw [HN.out]; exact hlt
      have hjU : j < (mkUp 1 m.T j).length := by rw [mkUp_len]; exact hjG
      obtain ⟨b', o', eb, ai, ci, hc, hs⟩ := HW.out.texts j hjU
      cases eb
      rw [Nat.zero_add] at hc
      have hgl : ((mkUp 1 m.T j).getD j []).length = (m.T.getD j []).length := mkUp_gl 1 m.T j j hjG
      rw [show ({ m with T := mkUp 1 m.T j } : Tm).T = mkUp 1 m.T j from rfl, hgl] at hc
      have hl40 := HZ.out.s j hjG
      have hp : pre m.T j ≤ 1048576 := Nat.le_trans (pre_mono m.T j _ (Nat.le_of_lt hjG)) HZ.out.p
      have hown := HW.out.s j hjU
      obtain ⟨ai', ci', hv⟩ := own_shapeO hown
      obtain ⟨mm, hm⟩ : ∃ mm, mm = (m.T.getD j []).length := ⟨_, rfl⟩
      have hps : pre m.T (j + 1) = pre m.T j + mm := by rw [hm]; rfl
      have hvl := HW.out.lenV
      have hu : V[j]? = some (V.getD j nilV) := by simp [List.getD, List.getElem?_eq_getElem (show j < V.length by rw [hvl]; exact hjU)]
      have hcv := own_cellO (show wr.ownsRow 0 58 1 (.slice (some ⟨gb, 0, none⟩) n cT) n V from by
        have h := HW.out.t
        rw [show ({ m with T := mkUp 1 m.T j } : Tm).T.length = n by rw [mkUp_len]; exact HN.out] at h
        exact h) j _ hu
      rw [hc] at hcv
      have hv' : V.getD j nilV = .slice ai mm ci := by rw [hm]; exact (Option.some.inj hcv).symm
      have hown' : wr.ownsRow 0 9 1 (.slice ai mm ci) mm (mapS ((mkUp 1 m.T j).getD j [])) := by
        rw [← hv']
        have e : ((mkUp 1 m.T j).getD j []).length = mm := by rw [hgl, hm]
        rw [← e]
        exact hown
      rw [← hm] at hc hl40
      have C := hide (fun wx => markStringS_from 0 (.slice ai mm ci) ((mkUp 1 m.T j).getD j []) mm wx (1 + (pre m.T j : Int)) (by omega) (by omega) (by omega))
      have HOW := hide hown'
      have HV := hide hv'
      have HM := hide hm
      have HPS := hide hps
      clear hown hown' hv hv' hm hps hs hgl hcv hu hvl
      go_wp2_with fail
      refine (C.out _ HOW.out (Nat.zero_le _)).mono ?_
      rintro e w1 ⟨rfl, ho1, _, hg1⟩
      have hU : { m with T := mkUp 1 m.T (j + 1) } = ({ ({ m with T := mkUp 1 m.T j } : Tm) with T := (mkUp 1 m.T j).set j (mkS (1 + (pre m.T j : Int)) mm) } : Tm) := by
        rw [mkUp_succ 1 m.T j hjG, ← HM.out]
      have hW1 : TW w1 S V (.slice (some ⟨gb, 0, none⟩) n cT) vH vL vG vN { m with T := mkUp 1 m.T (j + 1) } := by
        rw [hU]
        refine HW.out.mark j hjU (mkS (1 + (pre m.T j : Int)) mm) ?_ ?_
        · rw [HV.out, mkS_len]; exact ho1
        · rw [HV.out]; exact hg1
      have hK1 : Kept S w w1 := HK.out.trans (kept_grown hg1 (fun q e => HW.out.sV j hjU q (by rw [HV.out]; exact e))) (fun q _ h => h)
      have H1 := hide hW1
      have K1 := hide hK1
      clear hU hW1 hK1 ho1 hg1 C
      go_wp2
      go_roundw
      case rel => exact ⟨j + 1, by omega, by go_num, by rw [HPS.out]; simp; omega, H1, K1⟩
      case measure => simp [intOf]; omega
    · obtain rfl : j = n := by omega
      have hltI : ¬ (j : Int) < (j : Int) := by omega
      go_wp2
      go_ret
      refine ⟨?_, ?_, HK.out⟩
      · show _ = Ending.returned (.int .i64 (1 + (pre m.T m.T.length : Int)))
        rw [HN.out]
        rfl
      · show TW _ S V _ vH vL vG vN { m with T := mkUp 1 m.T m.T.length }
        rw [HN.out]
        exact HW.out

set_option maxRecDepth 100000 in
set_option maxHeartbeats 2000000 in
theorem heldStringSS_tl (aT : Option Addr) (n cT : Nat) (m : Tm) (w : World) (hn : m.T.length = n) (hz : SmT m) (hF : SlSS w aT (mkUp 1 m.T n)) :
    Calls Try.prog 65 #[.slice aT n cT, .int .i64 1] w fun e w' => e = .returned (.int .i64 (c1 m)) ∧ Below w.heap.size w w' := by
  have hn5 : n ≤ 1048576 := by have := hz.t; omega
  have HC : Hid (∀ i, i < n → ∃ b off ai ci, aT = some ⟨b, off, none⟩ ∧ w.cell? ⟨b, off + i, none⟩ = some (.slice ai (m.T.getD i []).length ci) ∧ SlS w ai (mkS (1 + (pre m.T i : Int)) (m.T.getD i []).length)) := hide (fun i hi => by
    obtain ⟨b, off, ea, ai, ci, hc, hs⟩ := hF i (by rw [mkUp_len, hn]; exact hi)
    have e1 : (mkUp 1 m.T n).getD i [] = mkS (1 + (pre m.T i : Int)) (m.T.getD i []).length := by rw [mkUp_get 1 m.T n i (by omega), if_pos hi]
    rw [e1, mkS_len] at hc
    rw [e1] at hs
    exact ⟨b, off, ai, ci, ea, hc, hs⟩)
  have HZ := hide hz
  have HN := hide hn
  clear hF hz hn
  go_enter Try.func65, Try.ntmps65
  go_wp2
  go_loopw [1, 5] (fun k i wr => ∃ j : Nat, j ≤ n ∧ i = .int .i64 j ∧ k = .int .i64 (1 + (pre m.T j : Int)) ∧ Hid (Below w.heap.size w wr)) (fun _ i _ => n - (intOf i).toNat)
  case atStart => exact ⟨0, Nat.zero_le _, rfl, rfl, hide (Below.refl _ _)⟩
  case round =>
    obtain ⟨j, hj, rfl, rfl, HB⟩ := hrel
    by_cases hlt : j < n
    · obtain ⟨b, off, ai, ci, rfl, hc0, hs0⟩ := HC.out j hlt
      have hc := (HB.out.cell (p := ⟨b, off + j, none⟩) (blk_lt hc0)).trans hc0
      have hs := hs0.below HB.out
      have hltI : (j : Int) < (n : Int) := by omega
      have hj0 : (0 : Int) ≤ (j : Int) := by omega
      have hjG : j < m.T.length := by rw [HN.out]; exact hlt
      have hl40 := HZ.out.s j hjG
      have hp : pre m.T j ≤ 1048576 := Nat.le_trans (pre_mono m.T j _ (Nat.le_of_lt hjG)) HZ.out.p
      obtain ⟨mm, hm⟩ : ∃ mm, mm = (m.T.getD j []).length := ⟨_, rfl⟩
      have hps : pre m.T (j + 1) = pre m.T j + mm := by rw [hm]; rfl
      rw [← hm] at hc hl40 hs
      have C := hide (heldStringS_from ai mm ci wr (1 + (pre m.T j : Int)) (by omega) (by omega) (by omega) hs)
      have HPS := hide hps
      have hcn : ¬ 1 + (pre m.T j : Int) + (mm : Int) < 0 := by omega
      clear hm hps hc0 hs hs0
      go_wp2_with fail
      refine C.out.mono ?_
      rintro e w1 ⟨rfl, hb1⟩
      have H1 := hide (HB.out.trans (hb1.mono HB.out.size))
      clear hb1 C
      go_wp2
      go_roundw
      case rel => exact ⟨j + 1, by omega, by go_num, by rw [HPS.out]; simp; omega, H1⟩
      case measure => simp [intOf]; omega
    · obtain rfl : j = n := by omega
      have hltI : ¬ (j : Int) < (j : Int) := by omega
      go_wp2
      go_ret
      refine ⟨?_, HB.out⟩
      show _ = Ending.returned (.int .i64 (1 + (pre m.T m.T.length : Int)))
      rw [HN.out]
      rfl

set_option maxRecDepth 100000 in
set_option maxHeartbeats 4000000 in
theorem markTell_tw (S : Nat → Prop) (V : List Value) (aT : Option Addr) (nT cT : Nat) (aH : Option Addr) (nH cH : Nat) (aL : Option Addr) (nL cL : Nat) (aG : Option Addr) (nG cG : Nat) (aN : Option Addr) (nN cN : Nat) (m : Tm) (w : World) (hT : m.T.length = nT) (hH : m.hd.length = nH) (hL : m.ln.length = nL) (hG : m.lg.length = nG) (hN : m.nx.length = nN) (hz : SmT m) (hS : ∀ q, S q → q < w.heap.size) (hW : TW w S V (.slice aT nT cT) (.slice aH nH cH) (.slice aL nL cL) (.slice aG nG cG) (.slice aN nN cN) m) :
    Calls Try.prog 18 #[tlV aT nT cT aH nH cH aL nL cL aG nG cG aN nN cN, .int .i64 1] w fun e w' => e = .returned (.int .i64 (c5 m)) ∧ TW w' S V (.slice aT nT cT) (.slice aH nH cH) (.slice aL nL cL) (.slice aG nG cG) (.slice aN nN cN) (m5 m) ∧ Kept S w w' := by
  have hpp := hz.p
  have z1 := hz.h
  have z2 := hz.l
  have z3 := hz.g
  have z4 := hz.n
  obtain ⟨k1, hk1⟩ : ∃ k, k = c1 m := ⟨_, rfl⟩
  have b1 : 1 ≤ k1 ∧ k1 ≤ 1048577 := by rw [hk1]; unfold c1; omega
  obtain ⟨b1a, b1b⟩ := b1
  have BX := (Below.refl w.heap.size w).alloc (Nat.le_refl _) (tlO aT nT cT aH nH cH aL nL cL aG nG cG aN nN cN)
  have HX := hide (kept_below (S := S) BX)
  have nS : Hid (¬ S w.heap.size) := hide (fun h => by have := hS _ h; omega)
  have O0 := hide (hW.below BX)
  have GX := hide (blk_newO w (tlO aT nT cT aH nH cH aL nL cL aG nG cG aN nN cN))
  have HLT : Hid (w.heap.size < (w.alloc (tlO aT nT cT aH nH cH aL nL cL aG nG cG aN nN cN)).heap.size) := hide (by simp)
  have CE := hide (fun wx => markStringSS_tw S V aT nT cT (.slice aH nH cH) (.slice aL nL cL) (.slice aG nG cG) (.slice aN nN cN) m wx hT hz)
  rw [← hk1] at CE
  have HK := hide hk1
  have HH := hide hH
  have HL := hide hL
  have HG := hide hG
  have HN := hide hN
  rw [hH] at z1
  rw [hL] at z2
  rw [hG] at z3
  rw [hN] at z4
  clear hW BX hS hk1 hz hpp hT hH hL hG hN
  go_enter Try.func18, Try.ntmps18
  go_wp2_with fail
  refine (CE.out _ O0.out).mono ?_
  rintro e w1 ⟨rfl, hW1, hK1⟩
  have G1 := hide ((hK1.block w.heap.size HLT.out nS.out).trans GX.out)
  have K1 := hide (HX.out.trans hK1 (fun q _ h => h))
  have O1 := hide hW1
  clear hW1 hK1 CE O0 GX HX HLT
  obtain ⟨k_0, k_1, k_2, k_3, k_4⟩ := blk5 G1.out
  have D1 : Hid (w1.ownsRow 0 3 1 (.slice aH nH cH) nH (m.hd.map (Value.int .i64))) := by
    have h := O1.out.h
    rw [show (m1 m).hd.length = _ from HH.out] at h
    exact hide h
  go_wp2_with fail
  refine (markIntS_from 0 _ m.hd nH _ k1 (by omega) (by omega) (by omega) D1.out).mono ?_
  rintro e w2 ⟨rfl, hd2, _, hg2⟩
  have hW2 : TW w2 S V (.slice aT nT cT) (.slice aH nH cH) (.slice aL nL cL) (.slice aG nG cG) (.slice aN nN cN) (m2 m) := O1.out.markH (mkC (c1 m) m.hd.length) (by rw [mkC_len, HH.out]; rw [← HK.out]; exact hd2) hg2
  have hk2 := kept_grown (S := S) hg2 (fun q e => O1.out.sH q e)
  have G2 := hide ((hk2.block w.heap.size (Array.getElem?_eq_some_iff.1 G1.out).1 nS.out).trans G1.out)
  have K2 := hide (K1.out.trans hk2 (fun q _ h => h))
  have O2 := hide hW2
  clear hW2 hk2 hd2 hg2 O1 D1 K1 k_0 k_1 k_2 k_3 k_4 G1
  obtain ⟨k_0, k_1, k_2, k_3, k_4⟩ := blk5 G2.out
  have D1 : Hid (w2.ownsRow 0 77 4 (.slice aL nL cL) nL (flat4 m.ln)) := by
    have h := O2.out.l
    rw [show (m2 m).ln.length = _ from HL.out] at h
    exact hide h
  go_wp2_with fail
  refine (markNoteS_from 0 _ m.ln nL _ (k1 + (nH : Int)) (by omega) (by omega) (by omega) D1.out (Nat.zero_le _)).mono ?_
  rintro e w3 ⟨rfl, hd2, _, hg2⟩
  have hW2 : TW w3 S V (.slice aT nT cT) (.slice aH nH cH) (.slice aL nL cL) (.slice aG nG cG) (.slice aN nN cN) (m3 m) := O2.out.markL (mk4 (c2 m) m.ln.length) (by rw [mk4_len, HL.out]; unfold c2; rw [HH.out, ← HK.out]; exact hd2) hg2
  have hk2 := kept_grown (S := S) hg2 (fun q e => O2.out.sL q e)
  have G3 := hide ((hk2.block w.heap.size (Array.getElem?_eq_some_iff.1 G2.out).1 nS.out).trans G2.out)
  have K3 := hide (K2.out.trans hk2 (fun q _ h => h))
  have O3 := hide hW2
  clear hW2 hk2 hd2 hg2 O2 D1 K2 k_0 k_1 k_2 k_3 k_4 G2
  obtain ⟨k_0, k_1, k_2, k_3, k_4⟩ := blk5 G3.out
  have D1 : Hid (w3.ownsRow 0 75 3 (.slice aG nG cG) nG (flat3 m.lg)) := by
    have h := O3.out.g
    rw [show (m3 m).lg.length = _ from HG.out] at h
    exact hide h
  go_wp2_with fail
  refine (markToldS_from 0 _ m.lg nG _ (k1 + (nH : Int) + 4 * (nL : Int)) (by omega) (by omega) (by omega) D1.out (Nat.zero_le _)).mono ?_
  rintro e w4 ⟨rfl, hd2, _, hg2⟩
  have hW2 : TW w4 S V (.slice aT nT cT) (.slice aH nH cH) (.slice aL nL cL) (.slice aG nG cG) (.slice aN nN cN) (m4 m) := O3.out.markG (mk3 (c3 m) m.lg.length) (by rw [mk3_len, HG.out]; unfold c3 c2; rw [HH.out, HL.out, ← HK.out]; exact hd2) hg2
  have hk2 := kept_grown (S := S) hg2 (fun q e => O3.out.sG q e)
  have G4 := hide ((hk2.block w.heap.size (Array.getElem?_eq_some_iff.1 G3.out).1 nS.out).trans G3.out)
  have K4 := hide (K3.out.trans hk2 (fun q _ h => h))
  have O4 := hide hW2
  clear hW2 hk2 hd2 hg2 O3 D1 K3 k_0 k_1 k_2 k_3 k_4 G3
  obtain ⟨k_0, k_1, k_2, k_3, k_4⟩ := blk5 G4.out
  have D1 : Hid (w4.ownsRow 0 3 1 (.slice aN nN cN) nN (m.nx.map (Value.int .i64))) := by
    have h := O4.out.n
    rw [show (m4 m).nx.length = _ from HN.out] at h
    exact hide h
  go_wp2_with fail
  refine (markIntS_from 0 _ m.nx nN _ (k1 + (nH : Int) + 4 * (nL : Int) + 3 * (nG : Int)) (by omega) (by omega) (by omega) D1.out).mono ?_
  rintro e w5 ⟨rfl, hd2, _, hg2⟩
  have hW2 : TW w5 S V (.slice aT nT cT) (.slice aH nH cH) (.slice aL nL cL) (.slice aG nG cG) (.slice aN nN cN) (m5 m) := O4.out.markN (mkC (c4 m) m.nx.length) (by rw [mkC_len, HN.out]; unfold c4 c3 c2; rw [HH.out, HL.out, HG.out, ← HK.out]; exact hd2) hg2
  have hk2 := kept_grown (S := S) hg2 (fun q e => O4.out.sN q e)
  have G5 := hide ((hk2.block w.heap.size (Array.getElem?_eq_some_iff.1 G4.out).1 nS.out).trans G4.out)
  have K5 := hide (K4.out.trans hk2 (fun q _ h => h))
  have O5 := hide hW2
  clear hW2 hk2 hd2 hg2 O4 D1 K4 k_0 k_1 k_2 k_3 k_4 G4
  go_wp2
  go_ret
  refine ⟨?_, O5.out, K5.out⟩
  unfold c5 c4 c3 c2
  rw [HH.out, HL.out, HG.out, HN.out, ← HK.out]
  rfl

set_option maxRecDepth 100000 in
set_option maxHeartbeats 4000000 in
theorem heldTell_tl (aT : Option Addr) (nT cT : Nat) (aH : Option Addr) (nH cH : Nat) (aL : Option Addr) (nL cL : Nat) (aG : Option Addr) (nG cG : Nat) (aN : Option Addr) (nN cN : Nat) (m : Tm) (w : World) (hT : m.T.length = nT) (hH : m.hd.length = nH) (hL : m.ln.length = nL) (hG : m.lg.length = nG) (hN : m.nx.length = nN) (hz : SmT m) (hF : TlF w aT aH aL aG aN (m5 m)) :
    Calls Try.prog 19 #[tlV aT nT cT aH nH cH aL nL cL aG nG cG aN nN cN, .int .i64 1] w fun e w' => e = .returned (.int .i64 (c5 m)) ∧ Below w.heap.size w w' := by
  have hpp := hz.p
  have z1 := hz.h
  have z2 := hz.l
  have z3 := hz.g
  have z4 := hz.n
  obtain ⟨k1, hk1⟩ : ∃ k, k = c1 m := ⟨_, rfl⟩
  have b1 : 1 ≤ k1 ∧ k1 ≤ 1048577 := by rw [hk1]; unfold c1; omega
  obtain ⟨b1a, b1b⟩ := b1
  have BX := (Below.refl w.heap.size w).alloc (Nat.le_refl _) (tlO aT nT cT aH nH cH aL nL cL aG nG cG aN nN cN)
  have HX := hide BX
  have hrp := (hF.below BX)
  have FH := hide hrp.h
  rw [show (m5 m).hd = mkC k1 nH by show mkC (c1 m) m.hd.length = _; rw [← hk1, hH]] at FH
  have FL := hide hrp.l
  rw [show (m5 m).ln = mk4 (k1 + (nH : Int)) nL by show mk4 (c1 m + (m.hd.length : Int)) m.ln.length = _; rw [← hk1, hH, hL]] at FL
  have FG := hide hrp.g
  rw [show (m5 m).lg = mk3 (k1 + (nH : Int) + 4 * (nL : Int)) nG by show mk3 (c1 m + (m.hd.length : Int) + 4 * (m.ln.length : Int)) m.lg.length = _; rw [← hk1, hH, hL, hG]] at FG
  have FN := hide hrp.n
  rw [show (m5 m).nx = mkC (k1 + (nH : Int) + 4 * (nL : Int) + 3 * (nG : Int)) nN by show mkC (c1 m + (m.hd.length : Int) + 4 * (m.ln.length : Int) + 3 * (m.lg.length : Int)) m.nx.length = _; rw [← hk1, hH, hL, hG, hN]] at FN
  have GX := hide (blk_newO w (tlO aT nT cT aH nH cH aL nL cL aG nG cG aN nN cN))
  have CE := hide (heldStringSS_tl aT nT cT m _ hT hz (by have h := hrp.t; rw [show (m5 m).T = mkUp 1 m.T nT by show mkUp 1 m.T m.T.length = _; rw [hT]] at h; exact h))
  rw [← hk1] at CE
  have HE : Hid (c5 m = k1 + (nH : Int) + 4 * (nL : Int) + 3 * (nG : Int) + (nN : Int)) := hide (by unfold c5 c4 c3 c2; rw [hH, hL, hG, hN, ← hk1])
  rw [hH] at z1
  rw [hL] at z2
  rw [hG] at z3
  rw [hN] at z4
  obtain ⟨wa, hwa⟩ : ∃ wa, wa = w.alloc (tlO aT nT cT aH nH cH aL nL cL aG nG cG aN nN cN) := ⟨_, rfl⟩
  rw [← hwa] at HX FH FL FG FN GX CE
  have HWA := hide hwa
  clear hF BX hk1 hz hpp hT hH hL hG hN hrp hwa
  go_enter Try.func19, Try.ntmps19
  go_upto_region 1 with fail
  rw [← HWA.out]
  obtain ⟨k_0, k_1, k_2, k_3, k_4⟩ := blk5 GX.out
  go_wp2_with fail
  refine CE.out.mono ?_
  rintro e w1 ⟨rfl, hb⟩
  have B1 := hide hb
  have n1 : ¬ k1 < 0 := by omega
  clear hb CE k_0 k_1 k_2 k_3 k_4
  have G1 := (B1.out.block w.heap.size (Array.getElem?_eq_some_iff.1 GX.out).1).trans GX.out
  obtain ⟨k_0, k_1, k_2, k_3, k_4⟩ := blk5 G1
  clear G1
  go_wp2_with fail
  refine (heldIntS_from aH nH cH k1 _ (by omega) (by omega) (by omega) (FH.out.below B1.out)).mono ?_
  rintro e w2 ⟨rfl, hb⟩
  have B2 := hide (B1.out.trans (hb.mono B1.out.size))
  have n2 : ¬ k1 + (nH : Int) < 0 := by omega
  clear hb k_0 k_1 k_2 k_3 k_4
  have G1 := (B2.out.block w.heap.size (Array.getElem?_eq_some_iff.1 GX.out).1).trans GX.out
  obtain ⟨k_0, k_1, k_2, k_3, k_4⟩ := blk5 G1
  clear G1
  go_wp2_with fail
  refine (heldNoteS_from aL nL cL _ (k1 + (nH : Int)) (by omega) (by omega) (by omega) (FL.out.below B2.out)).mono ?_
  rintro e w3 ⟨rfl, hb⟩
  have B3 := hide (B2.out.trans (hb.mono B2.out.size))
  have n3 : ¬ k1 + (nH : Int) + 4 * (nL : Int) < 0 := by omega
  clear hb k_0 k_1 k_2 k_3 k_4
  have G1 := (B3.out.block w.heap.size (Array.getElem?_eq_some_iff.1 GX.out).1).trans GX.out
  obtain ⟨k_0, k_1, k_2, k_3, k_4⟩ := blk5 G1
  clear G1
  go_wp2_with fail
  refine (heldToldS_any aG nG cG _ (k1 + (nH : Int) + 4 * (nL : Int)) (by omega) (by omega) (by omega) (FG.out.below B3.out)).mono ?_
  rintro e w4 ⟨rfl, hb⟩
  have B4 := hide (B3.out.trans (hb.mono B3.out.size))
  have n4 : ¬ k1 + (nH : Int) + 4 * (nL : Int) + 3 * (nG : Int) < 0 := by omega
  clear hb k_0 k_1 k_2 k_3 k_4
  have G1 := (B4.out.block w.heap.size (Array.getElem?_eq_some_iff.1 GX.out).1).trans GX.out
  obtain ⟨k_0, k_1, k_2, k_3, k_4⟩ := blk5 G1
  clear G1
  go_wp2_with fail
  refine (heldIntS_from aN nN cN (k1 + (nH : Int) + 4 * (nL : Int) + 3 * (nG : Int)) _ (by omega) (by omega) (by omega) (FN.out.below B4.out)).mono ?_
  rintro e w5 ⟨rfl, hb⟩
  have B5 := hide (B4.out.trans (hb.mono B4.out.size))
  have n5 : ¬ k1 + (nH : Int) + 4 * (nL : Int) + 3 * (nG : Int) + (nN : Int) < 0 := by omega
  clear hb k_0 k_1 k_2 k_3 k_4
  go_wp2
  go_ret
  exact ⟨by rw [HE.out]; rfl, HX.out.trans (B5.out.mono HX.out.size)⟩
end Go.Proofs.Ythmekhhfihjclag.L10

namespace Go.Proofs.Ythmekhhfihjclag.L10
open Go.RowKit L1 Own Str Nte Tri
set_option linter.unusedVariables false

structure TG (c : Nat) (wi : World) (b : Nat) (S : Nat → Prop) (V : List Value) (aT : Option Addr) (nT cT : Nat) (aH : Option Addr) (nH cH : Nat) (aL : Option Addr) (nL cL : Nat) (aG : Option Addr) (nG cG : Nat) (aN : Option Addr) (nN cN : Nat) (m : Tm) : Prop where
  box : wi.heap[b]? = some (tlO aT nT cT aH nH cH aL nL cL aG nG cG aN nN cN)
  tw : TW wi S V (.slice aT nT cT) (.slice aH nH cH) (.slice aL nL cL) (.slice aG nG cG) (.slice aN nN cN) m
  lo : ∀ q, S q → c ≤ q ∧ q < wi.heap.size
  bl : c ≤ b ∧ ¬ S b
section
variable {c : Nat} {wi wj : World} {b : Nat} {S : Nat → Prop} {V : List Value} {aT : Option Addr} {nT cT : Nat} {aH : Option Addr} {nH cH : Nat} {aL : Option Addr} {nL cL : Nat} {aG : Option Addr} {nG cG : Nat} {aN : Option Addr} {nN cN : Nat} {m : Tm}
theorem TG.keep (h : TG c wi b S V aT nT cT aH nH cH aL nL cL aG nG cG aN nN cN m) (hs : wi.heap.size ≤ wj.heap.size) (hb : ∀ q, c ≤ q → q < wi.heap.size → wj.heap[q]? = wi.heap[q]?) : TG c wj b S V aT nT cT aH nH cH aL nL cL aG nG cG aN nN cN m :=
  ⟨(hb b h.bl.1 (Array.getElem?_eq_some_iff.1 h.box).1).trans h.box, h.tw.at (fun q hq hl => hb q (h.lo q hq).1 hl), fun q hq => ⟨(h.lo q hq).1, Nat.lt_of_lt_of_le (h.lo q hq).2 hs⟩, h.bl⟩
theorem TG.below (h : TG c wi b S V aT nT cT aH nH cH aL nL cL aG nG cG aN nN cN m) (hb : Below wi.heap.size wi wj) : TG c wj b S V aT nT cT aH nH cH aL nL cL aG nG cG aN nN cN m := h.keep hb.size (fun q _ hq => hb.block q hq)
theorem TG.tlf (h : TG c wi b S V aT nT cT aH nH cH aL nL cL aG nG cG aN nN cN m) : TlF wi aT aH aL aG aN m := h.tw.tlf
theorem TG.mark (h : TG c wi b S V aT nT cT aH nH cH aL nL cL aG nG cG aN nN cN m) {m' : Tm} (hW : TW wj S V (.slice aT nT cT) (.slice aH nH cH) (.slice aL nL cL) (.slice aG nG cG) (.slice aN nN cN) m') (hK : Kept S wi wj) : TG c wj b S V aT nT cT aH nH cH aL nL cL aG nG cG aN nN cN m' :=
  ⟨(hK.block b (Array.getElem?_eq_some_iff.1 h.box).1 h.bl.2).trans h.box, hW, fun q hq => ⟨(h.lo q hq).1, Nat.lt_of_lt_of_le (h.lo q hq).2 hK.size⟩, h.bl⟩
end
theorem tg_made {c : Nat} {w w1 : World} {m : Tm} {ok : Bool} {e : Ending} (hc : c ≤ w.heap.size) (h : RetT w m ok e w1) : ∃ V aT cT aH cH aL cL aG cG aN cN S, e = .returned (.tuple #[tlV aT m.T.length cT aH m.hd.length cH aL m.ln.length cL aG m.lg.length cG aN m.nx.length cN, .bool ok]) ∧ Below w.heap.size w w1 ∧ TG c (w1.alloc (tlO aT m.T.length cT aH m.hd.length cH aL m.ln.length cL aG m.lg.length cG aN m.nx.length cN)) w1.heap.size S V aT m.T.length cT aH m.hd.length cH aL m.ln.length cL aG m.lg.length cG aN m.nx.length cN m := by
  obtain ⟨V, aT, cT, aH, cH, aL, cL, aG, cG, aN, cN, h1, h2, h3⟩ := h
  have hA := (Below.refl w1.heap.size w1).alloc (Nat.le_refl _) (tlO aT m.T.length cT aH m.hd.length cH aL m.ln.length cL aG m.lg.length cG aN m.nx.length cN)
  have hs := h3.size
  exact ⟨V, aT, cT, aH, cH, aL, cL, aG, cG, aN, cN, _, h1, h3, ⟨blk_newO _ _, h2.below hA, fun q hq => ⟨Nat.le_trans hc hq.1, Nat.lt_of_lt_of_le hq.2 hA.size⟩, ⟨by omega, fun hq => Nat.lt_irrefl _ hq.2⟩⟩⟩
/-- Few texts, notes and numbers. -/
theorem pre_bound {T : List (List ByteArray)} {B : Nat} (h : ∀ i, i < T.length → (T.getD i []).length ≤ B) : ∀ j, j ≤ T.length → pre T j ≤ B * j
  | 0, _ => by simp [pre]
  | j + 1, hj => by
    have h1 := pre_bound h j (by omega)
    have h2 := h j (by omega)
    simp only [pre]
    rw [Nat.mul_add]
    omega
theorem sm_new (m : Nat) (h : m ≤ 4) : SmT (newT m) := by
  obtain ⟨e1, e2, e3, e4, e5⟩ := new_lens m
  have hr : ∀ i, (newT m).T.getD i [] = [] := fun i => by
    show (List.replicate m ([] : List ByteArray)).getD i [] = []
    simp only [List.getD, List.getElem?_replicate]
    split <;> rfl
  have hp := pre_bound (T := (newT m).T) (B := 0) (fun i hi => by rw [hr i]; simp) (newT m).T.length (Nat.le_refl _)
  exact ⟨by omega, by omega, fun i _ => by rw [hr i]; simp, by omega, by omega, by omega, by omega⟩
theorem sm_zero : SmT zeroT := ⟨by simp [pre], by simp, fun i hi => absurd hi (Nat.not_lt_zero _), by simp, by simp, by simp, by simp⟩
theorem tlz_new (m : Nat) (h : m ≤ 4) : TlZ (newT m) (newT m).T.length (newT m).hd.length (newT m).ln.length (newT m).lg.length (newT m).nx.length := by
  obtain ⟨e1, e2, e3, e4, e5⟩ := new_lens m
  have hr : ∀ i, (newT m).T.getD i [] = [] := fun i => by
    show (List.replicate m ([] : List ByteArray)).getD i [] = []
    simp only [List.getD, List.getElem?_replicate]
    split <;> rfl
  exact ⟨rfl, rfl, rfl, rfl, rfl, by omega, by omega, by omega, by omega, by omega, fun i _ => by rw [hr i]; simp, fun i _ j hj => by rw [hr i] at hj; exact absurd hj (Nat.not_lt_zero _), fun i hi => by rw [e3] at hi; omega, fun i hi => by rw [e4] at hi; omega⟩
theorem tlz_zero : TlZ zeroT 0 0 0 0 0 := ⟨rfl, rfl, rfl, rfl, rfl, by omega, by omega, by omega, by omega, by omega, fun i hi => absurd hi (Nat.not_lt_zero _), fun i hi => absurd hi (Nat.not_lt_zero _), fun i hi => absurd hi (Nat.not_lt_zero _), fun i hi => absurd hi (Nat.not_lt_zero _)⟩
theorem nw_small {k : Int} {m : Tm} {ok : Bool} (h : NwIs k m ok) : SmT m ∧ TlZ m m.T.length m.hd.length m.ln.length m.lg.length m.nx.length := by
  by_cases hc : 1 ≤ k ∧ k ≤ 4
  · obtain ⟨rfl, _⟩ := h.yes hc
    exact ⟨sm_new _ (by omega), tlz_new _ (by omega)⟩
  · obtain ⟨rfl, _⟩ := h.no hc
    exact ⟨sm_zero, tlz_zero⟩
end Go.Proofs.Ythmekhhfihjclag.L10

namespace Go.Proofs.Ythmekhhfihjclag.Nte
open Go.RowKit L1 Go.ChangeShapes Go.WideShapes
set_option linter.unusedVariables false

theorem cellsNt : Try.prog.cellsOf 102 = 4 := by kernel_rfl
theorem cellsTo : Try.prog.cellsOf 100 = 3 := by kernel_rfl
theorem cellsInN : Try.prog.cellsOf 3 = 1 := by kernel_rfl
theorem cellsStN : Try.prog.cellsOf 9 = 1 := by kernel_rfl
theorem cellsBoN : Try.prog.cellsOf 4 = 1 := by kernel_rfl
set_option maxRecDepth 100000 in
theorem open_notes {H : Type} {enc : TypeId × Value → H} {w : World} {base fuel len cap : Nat} {spare : Nat → Bool} {held : Bool} {a : Option Addr} {x : DataW H × List MemPlace}
    (h : DataW.trod enc Try.prog w base spare held fuel 24 [.slice a len cap] = some x) : ∃ l, IsRow4 w a len l := by
  rcases Go.Deep.open_slice Try.underlying24 h with ⟨hcs, _⟩ | ⟨a', len', cap', m, n, D, Pl, hcs, hb, hl, hm, hmm, _, hx⟩
  · simp at hcs
    obtain ⟨rfl, rfl, rfl⟩ := hcs
    exact ⟨[], ⟨rfl, by unfold maxLen; omega, fun i hi => by simp at hi⟩, fun j hj => by simp at hj⟩
  · simp at hcs
    obtain ⟨rfl, rfl, rfl⟩ := hcs
    refine row4_of hl hm fun i hi => ?_
    obtain ⟨cs', h1, h2⟩ := hx i (by rw [hmm]; split <;> omega)
    rw [cellsNt] at h1
    obtain ⟨_, hlen, hcell⟩ := World.cells?_some h1
    obtain ⟨xs, k, hk, hxy, _, hxl, hf⟩ := DataW.trod_struct Try.underlying102 h2
    obtain ⟨v0, v1, v2, v3, rfl⟩ : ∃ v0 v1 v2 v3, cs' = [v0, v1, v2, v3] := by
      match cs', hlen with
      | [v0, v1, v2, v3], _ => exact ⟨_, _, _, _, rfl⟩
    obtain ⟨y0, y1, rfl⟩ : ∃ y0 y1, xs = [y0, y1] := by
      have hxl' : xs.length = 2 := hxl
      clear hf hxl hxy
      match xs, hxl' with
      | [y0, y1], _ => exact ⟨_, _, rfl⟩
    · skip
      have g0 := hf 0 _ rfl
      have g1 := hf 1 _ rfl
      simp [cellsBoN, cellsTo] at g0 g1
      obtain ⟨zs, k2, _, _, _, hzl, hf2⟩ := DataW.trod_struct Try.underlying100 g1
      obtain ⟨z0, z1, z2, rfl⟩ : ∃ z0 z1 z2, zs = [z0, z1, z2] := by
        have hzl' : zs.length = 3 := hzl
        clear hf2 hzl
        match zs, hzl' with
        | [z0, z1, z2], _ => exact ⟨_, _, _, rfl⟩
      · skip
        have q0 := hf2 0 _ rfl
        have q1 := hf2 1 _ rfl
        have q2 := hf2 2 _ rfl
        simp [cellsStN, cellsInN] at q0 q1 q2
        obtain ⟨n0, e0, _⟩ := DataW.trod_bool Try.underlying4 g0
        obtain ⟨n1, e1, _, _⟩ := DataW.trod_int Try.underlying3 q0
        obtain ⟨n2, e2, _, _⟩ := DataW.trod_int Try.underlying3 q1
        obtain ⟨n3, e3, _, s3⟩ := DataW.trod_string Try.underlying9 q2
        simp at e0 e1 e2 e3
        subst e0 e1 e2 e3
        have c0 := hcell 0 (by omega)
        have c1 := hcell 1 (by omega)
        have c2 := hcell 2 (by omega)
        have c3 := hcell 3 (by omega)
        rw [Go.Deep.add_add] at c0 c1 c2 c3
        exact ⟨(n0, n1, n2, n3), ⟨by simpa using c0, by simpa using c1, by simpa using c2, by simpa using c3⟩, s3⟩
end Go.Proofs.Ythmekhhfihjclag.Nte

namespace Go.Proofs.Ythmekhhfihjclag.Tri
open Go.RowKit L1 Go.ChangeShapes Go.WideShapes
set_option linter.unusedVariables false

theorem cellsTold : Try.prog.cellsOf 100 = 3 := by kernel_rfl
theorem cellsInTold : Try.prog.cellsOf 3 = 1 := by kernel_rfl
theorem cellsStTold : Try.prog.cellsOf 9 = 1 := by kernel_rfl
set_option maxRecDepth 100000 in
theorem open_ToldS {H : Type} {enc : TypeId × Value → H} {w : World} {base fuel len cap : Nat} {spare : Nat → Bool} {held : Bool} {a : Option Addr} {x : DataW H × List MemPlace}
    (h : DataW.trod enc Try.prog w base spare held fuel 25 [.slice a len cap] = some x) : ∃ l, IsRow3 w a len l := by
  rcases Go.Deep.open_slice Try.underlying25 h with ⟨hcs, _⟩ | ⟨a', len', cap', m, n, D, Pl, hcs, hb, hl, hm, hmm, _, hx⟩
  · simp at hcs
    obtain ⟨rfl, rfl, rfl⟩ := hcs
    exact ⟨[], ⟨rfl, by unfold maxLen; omega, fun i hi => by simp at hi⟩, fun j hj => by simp at hj⟩
  · simp at hcs
    obtain ⟨rfl, rfl, rfl⟩ := hcs
    refine row3_of hl hm fun i hi => ?_
    obtain ⟨cs', h1, h2⟩ := hx i (by rw [hmm]; split <;> omega)
    rw [cellsTold] at h1
    obtain ⟨_, hlen, hcell⟩ := World.cells?_some h1
    obtain ⟨xs, k, hk, hxy, _, hxl, hf⟩ := DataW.trod_struct Try.underlying100 h2
    obtain ⟨v0, v1, v2, rfl⟩ : ∃ v0 v1 v2, cs' = [v0, v1, v2] := by
      match cs', hlen with
      | [v0, v1, v2], _ => exact ⟨_, _, _, rfl⟩
    obtain ⟨y0, y1, y2, rfl⟩ : ∃ y0 y1 y2, xs = [y0, y1, y2] := by
      have hxl' : xs.length = 3 := hxl
      clear hf hxl hxy
      match xs, hxl' with
      | [y0, y1, y2], _ => exact ⟨_, _, _, rfl⟩
    · skip
      have g0 := hf 0 _ rfl
      have g1 := hf 1 _ rfl
      have g2 := hf 2 _ rfl
      simp [cellsInTold, cellsStTold] at g0 g1 g2
      obtain ⟨n0, e0, _, _⟩ := DataW.trod_int Try.underlying3 g0
      obtain ⟨n1, e1, _, _⟩ := DataW.trod_int Try.underlying3 g1
      obtain ⟨n2, e2, _, s2⟩ := DataW.trod_string Try.underlying9 g2
      simp at e0 e1 e2
      subst e0 e1 e2
      have c0 := hcell 0 (by omega)
      have c1 := hcell 1 (by omega)
      have c2 := hcell 2 (by omega)
      rw [Go.Deep.add_add] at c0 c1 c2
      exact ⟨(n0, n1, n2), ⟨by simpa using c0, by simpa using c1, by simpa using c2⟩, s2⟩
end Go.Proofs.Ythmekhhfihjclag.Tri

namespace Go.Proofs.Ythmekhhfihjclag.L10
open Go.RowKit L1 Own Str Nte Tri Go.ChangeShapes Go.WideShapes
set_option linter.unusedVariables false

theorem cellsIn : Try.prog.cellsOf 3 = 1 := by kernel_rfl
theorem cellsStO : Try.prog.cellsOf 9 = 1 := by kernel_rfl
theorem cellsSs : Try.prog.cellsOf 58 = 1 := by kernel_rfl
theorem add_at (b off i : Nat) : (⟨b, off, none⟩ : Addr).add i = ⟨b, off + i, none⟩ := by unfold Addr.add; split <;> simp_all
theorem array5 {α : Type} {cs : Array α} (h : cs.size = 5) : ∃ c0 c1 c2 c3 c4, cs = #[c0, c1, c2, c3, c4] := by
  obtain ⟨l⟩ := cs
  match l, h with
  | [c0, c1, c2, c3, c4], _ => exact ⟨c0, c1, c2, c3, c4, rfl⟩
section
variable {H : Type} {enc : TypeId × Value → H} {P : Program} {w : World} {base : Nat} {spare : Nat → Bool} {held : Bool}
/-- A struct of five fields, each of one cell, taken apart. -/
theorem open_five {r : Reach} {b0 : Nat} {t : TypeId} {f0 f1 f2 f3 f4 : Field} {v : Value} {d : DataW H} {p : List MemPlace} (hs : P.underlying t = some (.struct #[f0, f1, f2, f3, f4])) (hone : Go.Deep.oneCellFields P #[f0, f1, f2, f3, f4] = true) (hC : P.cellsOf t = 5)
    (hv : Value.okWide P w r b0 t v) (h : DataW.Trod enc P w base spare held t v d p) :
    ∃ (v0 v1 v2 v3 v4 : Value) (y0 y1 y2 y3 y4 : DataW H × List MemPlace) (n : Nat), v = .agg #[v0, v1, v2, v3, v4] ∧
      DataW.trod enc P w base spare held n f0.type [v0] = some y0 ∧ DataW.trod enc P w base spare held n f1.type [v1] = some y1 ∧ DataW.trod enc P w base spare held n f2.type [v2] = some y2 ∧ DataW.trod enc P w base spare held n f3.type [v3] = some y3 ∧ DataW.trod enc P w base spare held n f4.type [v4] = some y4 := by
  obtain ⟨cs, rfl, hsz⟩ := okWide_struct hs hv
  obtain ⟨c0, c1, c2, c3, c4, rfl⟩ := array5 (hsz.trans hC)
  obtain ⟨fuel, hf⟩ := h
  obtain ⟨xs, n, _, _, _, hlen, hx⟩ := DataW.trod_struct hs hf
  obtain ⟨y0, y1, y2, y3, y4, rfl⟩ : ∃ y0 y1 y2 y3 y4, xs = [y0, y1, y2, y3, y4] := by
    match xs, hlen with
    | [y0, y1, y2, y3, y4], _ => exact ⟨y0, y1, y2, y3, y4, rfl⟩
  have h0 := hx 0 f0 rfl
  have h1 := hx 1 f1 rfl
  have h2 := hx 2 f2 rfl
  have h3 := hx 3 f3 rfl
  have h4 := hx 4 f4 rfl
  obtain ⟨o0, k0⟩ := Go.Deep.hone_of hone 0 f0 rfl
  obtain ⟨o1, k1⟩ := Go.Deep.hone_of hone 1 f1 rfl
  obtain ⟨o2, k2⟩ := Go.Deep.hone_of hone 2 f2 rfl
  obtain ⟨o3, k3⟩ := Go.Deep.hone_of hone 3 f3 rfl
  obtain ⟨o4, k4⟩ := Go.Deep.hone_of hone 4 f4 rfl
  exact ⟨c0, c1, c2, c3, c4, y0, y1, y2, y3, y4, n, rfl, by simpa [Value.cells, o0, k0] using h0, by simpa [Value.cells, o1, k1] using h1, by simpa [Value.cells, o2, k2] using h2, by simpa [Value.cells, o3, k3] using h3, by simpa [Value.cells, o4, k4] using h4⟩
end
theorem open_ints_cell {H : Type} {enc : TypeId × Value → H} {w : World} {base fuel : Nat} {spare : Nat → Bool} {held : Bool} {v : Value} {x : DataW H × List MemPlace}
    (h : DataW.trod enc Try.prog w base spare held fuel 23 [v] = some x) : ∃ a len cap, v = .slice a len cap ∧ ∃ l : List Int, l.length = len ∧ len ≤ maxLen ∧ Sl w a l := by
  rcases open_ints Try.underlying23 Try.underlying3 cellsIn h with ⟨hcs, _⟩ | ⟨a, len, cap, zs, hcs, _, hl, hm, hz, hx, hcell, hwz⟩
  · simp at hcs
    subst hcs
    exact ⟨_, _, _, rfl, [], rfl, by unfold maxLen; omega, fun i hi => by simp at hi⟩
  · simp at hcs
    subst hcs
    have hzl : len ≤ zs.length := by rw [hz]; split <;> omega
    refine ⟨_, _, _, rfl, zs.take len, by simp; omega, Nat.le_trans hl hm, fun i hi => ?_⟩
    have hi' : i < len := by simp at hi; omega
    obtain ⟨b, off, spot⟩ := a
    have hspot : spot = none := by
      have := World.cell?_spot (hcell 0 (by omega))
      simpa [Addr.add] using this
    subst hspot
    have h1 := hcell i (by omega)
    rw [add_at] at h1
    refine ⟨b, off, rfl, ?_⟩
    rw [h1]
    simp [List.getD, hi']
theorem open_strs {H : Type} {enc : TypeId × Value → H} {w : World} {base fuel : Nat} {spare : Nat → Bool} {held : Bool} {v : Value} {x : DataW H × List MemPlace}
    (h : DataW.trod enc Try.prog w base spare held fuel 58 [v] = some x) : ∃ a len cap, v = .slice a len cap ∧ ∃ l, IsRowS w a len l := by
  rcases Go.Deep.open_slice Try.underlying58 h with ⟨hcs, _⟩ | ⟨a, len, cap, m, n, D, Pl, hcs, hb, hl, hm, hmm, _, hx⟩
  · simp at hcs
    subst hcs
    exact ⟨_, _, _, rfl, [], ⟨rfl, by unfold maxLen; omega, fun i hi => by simp at hi⟩, fun j hj => by simp at hj⟩
  · simp at hcs
    subst hcs
    refine ⟨_, _, _, rfl, rowS_of hl hm fun i hi => ?_⟩
    obtain ⟨cs', h1, h2⟩ := hx i (by rw [hmm]; split <;> omega)
    rw [cellsStO, Nat.mul_one] at h1
    obtain ⟨b, rfl, _, hs⟩ := DataW.trod_string Try.underlying9 h2
    obtain ⟨_, hlen, hcell⟩ := World.cells?_some h1
    have c0 := hcell 0 (by simp)
    rw [Go.Deep.add_add] at c0
    simp at c0
    exact ⟨b, c0, hs⟩
theorem open_strss {H : Type} {enc : TypeId × Value → H} {w : World} {base fuel : Nat} {spare : Nat → Bool} {held : Bool} {v : Value} {x : DataW H × List MemPlace}
    (h : DataW.trod enc Try.prog w base spare held fuel 22 [v] = some x) : ∃ a len cap, v = .slice a len cap ∧ ∃ l, IsRowSS w a len l := by
  rcases Go.Deep.open_slice Try.underlying22 h with ⟨hcs, _⟩ | ⟨a, len, cap, m, n, D, Pl, hcs, hb, hl, hm, hmm, _, hx⟩
  · simp at hcs
    subst hcs
    exact ⟨_, _, _, rfl, [], ⟨rfl, by unfold maxLen; omega, fun i hi => by simp at hi⟩, fun j hj => by simp at hj⟩
  · simp at hcs
    subst hcs
    refine ⟨_, _, _, rfl, rowSS_of hl hm fun i hi => ?_⟩
    obtain ⟨cs', h1, h2⟩ := hx i (by rw [hmm]; split <;> omega)
    rw [cellsSs, Nat.mul_one] at h1
    obtain ⟨_, hlen, hcell⟩ := World.cells?_some h1
    obtain ⟨v0, rfl⟩ : ∃ v0, cs' = [v0] := by
      match cs', hlen with
      | [v0], _ => exact ⟨_, rfl⟩
    have c0 := hcell 0 (by simp)
    rw [Go.Deep.add_add] at c0
    simp at c0
    obtain ⟨ai, li, ci, rfl, l, hrow⟩ := open_strs h2
    have hll := hrow.1.1
    exact ⟨l, ai, ci, by rw [hll]; exact c0, by rw [hll]; exact hrow⟩
theorem open_notes_cell {H : Type} {enc : TypeId × Value → H} {w : World} {base fuel : Nat} {spare : Nat → Bool} {held : Bool} {v : Value} {x : DataW H × List MemPlace}
    (h : DataW.trod enc Try.prog w base spare held fuel 24 [v] = some x) : ∃ a len cap, v = .slice a len cap ∧ ∃ l, IsRow4 w a len l := by
  have h0 := h
  rcases Go.Deep.open_slice Try.underlying24 h with ⟨hcs, _⟩ | ⟨a', len', cap', m, n, D, Pl, hcs, _⟩
  · simp at hcs
    subst hcs
    exact ⟨_, _, _, rfl, open_notes h0⟩
  · simp at hcs
    subst hcs
    exact ⟨_, _, _, rfl, open_notes h0⟩
theorem open_tolds_cell {H : Type} {enc : TypeId × Value → H} {w : World} {base fuel : Nat} {spare : Nat → Bool} {held : Bool} {v : Value} {x : DataW H × List MemPlace}
    (h : DataW.trod enc Try.prog w base spare held fuel 25 [v] = some x) : ∃ a len cap, v = .slice a len cap ∧ ∃ l, IsRow3 w a len l := by
  have h0 := h
  rcases Go.Deep.open_slice Try.underlying25 h with ⟨hcs, _⟩ | ⟨a', len', cap', m, n, D, Pl, hcs, _⟩
  · simp at hcs
    subst hcs
    exact ⟨_, _, _, rfl, open_ToldS h0⟩
  · simp at hcs
    subst hcs
    exact ⟨_, _, _, rfl, open_ToldS h0⟩
/-- What a walk is told of a world of tellers that came in. -/
structure IsTell (w : World) (aT : Option Addr) (nT : Nat) (aH : Option Addr) (nH : Nat) (aL : Option Addr) (nL : Nat) (aG : Option Addr) (nG : Nat) (aN : Option Addr) (nN : Nat) (m : Tm) : Prop where
  t : IsRowSS w aT nT m.T
  h : m.hd.length = nH ∧ nH ≤ maxLen ∧ Sl w aH m.hd
  l : IsRow4 w aL nL m.ln
  g : IsRow3 w aG nG m.lg
  n : m.nx.length = nN ∧ nN ≤ maxLen ∧ Sl w aN m.nx
set_option maxRecDepth 100000 in
theorem open_tell {H : Type} {enc : TypeId × Value → H} {w : World} {base : Nat} {spare : Nat → Bool} {held : Bool} {r : Reach} {b0 : Nat} {v : Value} {d : DataW H} {p : List MemPlace}
    (hv : Value.okWide Try.prog w r b0 27 v) (h : DataW.Trod enc Try.prog w base spare held 27 v d p) :
    ∃ aT nT cT aH nH cH aL nL cL aG nG cG aN nN cN, v = tlV aT nT cT aH nH cH aL nL cL aG nG cG aN nN cN ∧ ∃ m, IsTell w aT nT aH nH aL nL aG nG aN nN m := by
  obtain ⟨v0, v1, v2, v3, v4, y0, y1, y2, y3, y4, k, rfl, t0, t1, t2, t3, t4⟩ := open_five Try.underlying27 (by kernel_rfl) (by kernel_rfl) hv h
  obtain ⟨aT, nT, cT, rfl, T, hT⟩ := open_strss t0
  obtain ⟨aH, nH, cH, rfl, hd, hH⟩ := open_ints_cell t1
  obtain ⟨aL, nL, cL, rfl, ln, hL⟩ := open_notes_cell t2
  obtain ⟨aG, nG, cG, rfl, lg, hG⟩ := open_tolds_cell t3
  obtain ⟨aN, nN, cN, rfl, nx, hN⟩ := open_ints_cell t4
  exact ⟨aT, nT, cT, aH, nH, cH, aL, nL, cL, aG, nG, cG, aN, nN, cN, rfl, ⟨T, hd, ln, lg, nx⟩, hT, hH, hL, hG, hN⟩
theorem IsTell.tlf {w : World} {aT aH aL aG aN : Option Addr} {nT nH nL nG nN : Nat} {m : Tm} (h : IsTell w aT nT aH nH aL nL aG nG aN nN m) : TlF w aT aH aL aG aN m := ⟨h.t.1.2.2, h.h.2.2, h.l.1.2.2, h.g.1.2.2, h.n.2.2⟩
end Go.Proofs.Ythmekhhfihjclag.L10

namespace Go.Proofs.Ythmekhhfihjclag.Str
open Go.RowKit L1
set_option linter.unusedVariables false

set_option maxRecDepth 100000 in
set_option maxHeartbeats 1000000 in
theorem szStringS_any (a : Option Addr) (l : List ByteArray) (n cap : Nat) (L : Int) (w : World) (hn : l.length = n) (hm : n ≤ 9223372036854775807) (hs : SlS w a l) (hst : TxS l) (h0 : 0 ≤ L) (h1 : L ≤ 1048576) (r : Int) (hr : r = if (wtS l : Int) ≤ L then L - (wtS l : Int) else -1) :
    Calls Try.prog 78 #[.slice a n cap, .int .i64 L] w fun e w' => e = .returned (.int .i64 r) ∧ Below w.heap.size w w' := by
  have HR := hide hr
  have HS := hide hs
  have HN := hide hn
  have HST := hide hst
  clear hr hs hn hst
  have HW : Hid (wtS l = n + szsS l) := by show wtS l = n + szsS l; unfold wtS; rw [HN.out]
  by_cases ha : L - (n : Int) < 0
  · go_enter Try.func78, Try.ntmps78
    go_wp2
    go_ret
    exact ⟨by rw [HR.out, HW.out, if_neg (by omega)]; rfl, Below.refl _ _⟩
  · go_enter Try.func78, Try.ntmps78
    go_wp2
    go_loopw [1, 5] (fun t i wr => ∃ k : Nat, k ≤ n ∧ i = .int .i64 k ∧ t = .int .i64 (L - (n : Int) - (szsS (l.take k) : Int)) ∧ Hid ((szsS (l.take k) : Int) ≤ L - (n : Int)) ∧ Below w.heap.size w wr) (fun _ i _ => n - (intOf i).toNat)
    case atStart => exact ⟨0, Nat.zero_le _, rfl, by simp [szsS], by show (szsS (l.take 0) : Int) ≤ L - (n : Int); simp [szsS]; omega, Below.refl _ _⟩
    case round =>
      obtain ⟨k, hk, rfl, rfl, HK, hbel⟩ := hrel
      by_cases hlt : k < n
      · obtain ⟨b, off, rfl, hc0⟩ := HS.out k (by rw [HN.out]; exact hlt)
        have hc := (hbel.cell (p := ⟨b, off + k, none⟩) (blk_lt hc0)).trans hc0
        have hltI : (k : Int) < (n : Int) := by omega
        have hsx := HST.out k (by rw [HN.out]; exact hlt)
        have htk := szsS_take l k (by rw [HN.out]; exact hlt)
        have hle := szsS_le l (k + 1)
        obtain ⟨y, hy⟩ : ∃ y, y = l.getD k e0 := ⟨_, rfl⟩
        rw [← hy] at hc hsx htk
        obtain ⟨c, hcc⟩ : ∃ c, c = L - (n : Int) - (szsS (l.take k) : Int) := ⟨_, rfl⟩
        have hc0 : 0 ≤ c := by have := HK.out; omega
        have hc1 : c ≤ 1048576 := by omega
        rw [← hcc]
        have HC := hide hcc
        have HTK := hide htk
        have HLE := hide hle
        have B0 := hide hbel
        clear hy hcc htk hle hbel
        by_cases hfit : (y.size : Int) ≤ c
        · have hd0 : ¬ c - (y.size : Int) < 0 := by omega
          go_wp2
          go_roundw
          case rel => exact ⟨k + 1, by omega, by go_num, by rw [HC.out, HTK.out]; go_num, by show (szsS (l.take (k + 1)) : Int) ≤ L - (n : Int); have := HC.out; have := HTK.out; omega, B0.out⟩
          case measure => simp [intOf]; omega
        · have hd0 : c - (y.size : Int) < 0 := by omega
          have E : Hid (r = -1) := by show r = -1; have := HC.out; have := HTK.out; have := HLE.out; rw [HR.out, HW.out, if_neg (by omega)]
          go_wp2
          go_ret
          exact ⟨by rw [E.out]; rfl, B0.out⟩
      · obtain rfl : k = n := by omega
        have hltI : ¬ (k : Int) < (k : Int) := by omega
        have e1 : l.take k = l := List.take_of_length_le (by rw [HN.out]; exact Nat.le_refl _)
        rw [e1] at HK ⊢
        have E : Hid (r = L - (k : Int) - (szsS l : Int)) := by show r = _; have := HK.out; rw [HR.out, HW.out, if_pos (by omega)]; omega
        clear e1
        go_wp2
        go_ret
        exact ⟨by rw [E.out]; rfl, hbel⟩
end Go.Proofs.Ythmekhhfihjclag.Str
