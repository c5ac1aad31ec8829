/-
  Contracts of the laws' own helpers laws.markTell and laws.heldTell over a world of tellers in memory of its own: all that it owns is written over, and found so.
-/
import Derived.Test.YthmekhhfihjclafL10Mem
import Derived.Test.YthmekhhfihjclafStrMark
import Derived.Test.YthmekhhfihjclafStrHeld
import Derived.Test.YthmekhhfihjclafNoteMark
import Derived.Test.YthmekhhfihjclafNoteHeld
import Derived.Test.YthmekhhfihjclafTriToldMark
import Derived.Test.YthmekhhfihjclafTriToldHeld
import Derived.Test.YthmekhhfihjclafL4IntHeld
import Derived.Deep.DeepCutAuto
namespace Go.Proofs.Ythmekhhfihjclaf.L10
open Go.RowKit L1 L4 Own Str Nte Tri
set_option linter.unusedVariables false

/-- How many texts the first tellers have. -/
def pre (G : List (List ByteArray)) : Nat → Nat
  | 0 => 0
  | j + 1 => pre G j + (G.getD j []).length
theorem pre_mono (G : List (List ByteArray)) : ∀ j k, j ≤ k → pre G j ≤ pre G k
  | j, 0, h => by have : j = 0 := by omega
                  subst this; exact Nat.le_refl _
  | j, k + 1, h => by
    by_cases e : j = k + 1
    · subst e; exact Nat.le_refl _
    · have := pre_mono G j k (by omega)
      simp only [pre]
      omega
def mkUp (c : Int) (G : List (List ByteArray)) (j : Nat) : List (List ByteArray) := (List.range G.length).map fun i => if i < j then mkS (c + (pre G i : Int)) (G.getD i []).length else G.getD i []
theorem mkUp_len (c : Int) (G : List (List ByteArray)) (j : Nat) : (mkUp c G j).length = G.length := by simp [mkUp]
theorem mkUp_get (c : Int) (G : List (List ByteArray)) (j i : Nat) (hi : i < G.length) : (mkUp c G j).getD i [] = if i < j then mkS (c + (pre G i : Int)) (G.getD i []).length else G.getD i [] := by
  simp [mkUp, List.getD, hi]
theorem mkUp_gl (c : Int) (G : List (List ByteArray)) (j i : Nat) (hi : i < G.length) : ((mkUp c G j).getD i []).length = (G.getD i []).length := by
  rw [mkUp_get c G j i hi]
  split
  · rw [mkS_len]
  · rfl
theorem getD_setS (G : List (List ByteArray)) (k i : Nat) (x : List ByteArray) (hi : i < G.length) : (G.set k x).getD i [] = if k = i then x else G.getD i [] := by
  simp only [List.getD, List.getElem?_set]
  by_cases h : k = i
  · subst h; simp [hi]
  · simp [h]
theorem listSS_same {X Y : List (List ByteArray)} (h1 : X.length = Y.length) (h : ∀ i, i < X.length → X.getD i [] = Y.getD i []) : X = Y := by
  apply List.ext_getElem?
  intro j
  by_cases hj : j < X.length
  · have h := h j hj
    simp only [List.getD, List.getElem?_eq_getElem hj, List.getElem?_eq_getElem (show j < Y.length by omega), Option.getD_some] at h
    rw [List.getElem?_eq_getElem hj, List.getElem?_eq_getElem (show j < Y.length by omega), h]
  · rw [List.getElem?_eq_none (by omega), List.getElem?_eq_none (by omega)]
theorem mkUp_zero (c : Int) (G : List (List ByteArray)) : mkUp c G 0 = G := listSS_same (mkUp_len c G 0) fun i hi => by
  rw [mkUp_len] at hi
  rw [mkUp_get c G 0 i hi, if_neg (by omega)]
theorem mkUp_succ (c : Int) (G : List (List ByteArray)) (j : Nat) (hj : j < G.length) : mkUp c G (j + 1) = (mkUp c G j).set j (mkS (c + (pre G j : Int)) (G.getD j []).length) := listSS_same (by simp [mkUp_len]) fun i hi => by
  rw [mkUp_len] at hi
  rw [mkUp_get c G (j + 1) i hi, getD_setS _ _ _ _ (by rw [mkUp_len]; exact hi), mkUp_get c G j i hi]
  by_cases e : j = i
  · subst e
    rw [if_pos (by omega), if_pos rfl]
  · rw [if_neg e]
    by_cases h : i < j
    · rw [if_pos h, if_pos (by omega)]
    · rw [if_neg h, if_neg (by omega)]
structure SmT (m : Tm) : Prop where
  p : pre m.T m.T.length ≤ 1048576
  t : m.T.length ≤ 1048576
  s : ∀ i, i < m.T.length → (m.T.getD i []).length ≤ 1048576
  h : m.hd.length ≤ 1048576
  l : m.ln.length ≤ 1048576
  g : m.lg.length ≤ 1048576
  n : m.nx.length ≤ 1048576
abbrev c1 (m : Tm) : Int := 1 + (pre m.T m.T.length : Int)
abbrev c2 (m : Tm) : Int := c1 m + (m.hd.length : Int)
abbrev c3 (m : Tm) : Int := c2 m + 4 * (m.ln.length : Int)
abbrev c4 (m : Tm) : Int := c3 m + 3 * (m.lg.length : Int)
abbrev c5 (m : Tm) : Int := c4 m + (m.nx.length : Int)
abbrev m1 (m : Tm) : Tm := { m with T := mkUp 1 m.T m.T.length }
abbrev m2 (m : Tm) : Tm := { m with T := mkUp 1 m.T m.T.length, hd := mkC (c1 m) m.hd.length }
abbrev m3 (m : Tm) : Tm := { m with T := mkUp 1 m.T m.T.length, hd := mkC (c1 m) m.hd.length, ln := mk4 (c2 m) m.ln.length }
abbrev m4 (m : Tm) : Tm := { m with T := mkUp 1 m.T m.T.length, hd := mkC (c1 m) m.hd.length, ln := mk4 (c2 m) m.ln.length, lg := mk3 (c3 m) m.lg.length }
abbrev m5 (m : Tm) : Tm := { m with T := mkUp 1 m.T m.T.length, hd := mkC (c1 m) m.hd.length, ln := mk4 (c2 m) m.ln.length, lg := mk3 (c3 m) m.lg.length, nx := mkC (c4 m) m.nx.length }
section
variable {w w' : World} {S : Nat → Prop} {V : List Value} {vT vH vL vG vN : Value} {m : Tm}
theorem TW.mark (h : TW w S V vT vH vL vG vN m) (k : Nat) (hk : k < m.T.length) (l' : List ByteArray) (hown : w'.ownsRow 0 9 1 (V.getD k nilV) l'.length (mapS l')) (hg : w.grownBy w' (V.getD k nilV).ownBlock) : TW w' S V vT vH vL vG vN { m with T := m.T.set k l' } := by
  have hl : ({ m with T := m.T.set k l' } : Tm).T.length = m.T.length := by simp
  have ne : ∀ {c n : Nat} {t : TypeId} {v : Value} {xs : List Value}, w.ownsRow 0 t c v n xs → 9 ≠ t → ∀ q, v.ownBlock = some q → (V.getD k nilV).ownBlock ≠ some q := fun ho ht q hq e => own_twoO (h.s k hk) ho ht q e hq
  refine ⟨?_, fun i hi => ?_, fun i j q hi hj hij e => ?_, own_pastO h.h hg (ne h.h t_si), own_pastO h.l hg (ne h.l t_sn), own_pastO h.g hg (ne h.g t_sg), own_pastO h.n hg (ne h.n t_si), h.hn, h.sT, fun i hi => ?_, h.sH, h.sL, h.sG, h.sN⟩
  · rw [hl]
    exact own_pastO h.t hg (ne h.t t_ts.symm)
  · rw [hl] at hi
    show World.ownsRow _ 0 _ 1 (V.getD i nilV) ((m.T.set k l').getD i []).length (mapS ((m.T.set k l').getD i []))
    rw [getD_setS m.T k i l' hi]
    split
    · rename_i e
      subst e
      exact hown
    · rename_i e
      exact own_pastO (h.s i hi) hg (fun q hq e2 => h.ap i k q hi hk (fun e3 => e e3.symm) hq e2)
  · rw [hl] at hi hj
    exact h.ap i j q hi hj hij e
  · rw [hl] at hi
    exact h.sV i hi
theorem TW.markH (h : TW w S V vT vH vL vG vN m) (y : List Int) (hown : w'.ownsRow 0 3 1 vH y.length (y.map (Value.int .i64))) (hg : w.grownBy w' vH.ownBlock) : TW w' S V vT vH vL vG vN { m with hd := y } := by
  have ne : ∀ {c n : Nat} {t : TypeId} {v : Value} {xs : List Value}, w.ownsRow 0 t c v n xs → 3 ≠ t → ∀ q, v.ownBlock = some q → vH.ownBlock ≠ some q := fun ho ht q hq e => own_twoO h.h ho ht q e hq
  exact ⟨own_pastO h.t hg (ne h.t t_ti.symm), fun i hi => own_pastO (h.s i hi) hg (ne (h.s i hi) t_si.symm), h.ap, hown, own_pastO h.l hg (ne h.l t_in), own_pastO h.g hg (ne h.g t_ig), own_pastO h.n hg (fun q hq e => h.hn q e hq), h.hn, h.sT, h.sV, h.sH, h.sL, h.sG, h.sN⟩
theorem TW.markN (h : TW w S V vT vH vL vG vN m) (y : List Int) (hown : w'.ownsRow 0 3 1 vN y.length (y.map (Value.int .i64))) (hg : w.grownBy w' vN.ownBlock) : TW w' S V vT vH vL vG vN { m with nx := y } := by
  have ne : ∀ {c n : Nat} {t : TypeId} {v : Value} {xs : List Value}, w.ownsRow 0 t c v n xs → 3 ≠ t → ∀ q, v.ownBlock = some q → vN.ownBlock ≠ some q := fun ho ht q hq e => own_twoO h.n ho ht q e hq
  exact ⟨own_pastO h.t hg (ne h.t t_ti.symm), fun i hi => own_pastO (h.s i hi) hg (ne (h.s i hi) t_si.symm), h.ap, own_pastO h.h hg (fun q hq e => h.hn q hq e), own_pastO h.l hg (ne h.l t_in), own_pastO h.g hg (ne h.g t_ig), hown, h.hn, h.sT, h.sV, h.sH, h.sL, h.sG, h.sN⟩
theorem TW.markL (h : TW w S V vT vH vL vG vN m) (y : List Nt) (hown : w'.ownsRow 0 48 4 vL y.length (flat4 y)) (hg : w.grownBy w' vL.ownBlock) : TW w' S V vT vH vL vG vN { m with ln := y } := by
  have ne : ∀ {c n : Nat} {t : TypeId} {v : Value} {xs : List Value}, w.ownsRow 0 t c v n xs → 48 ≠ t → ∀ q, v.ownBlock = some q → vL.ownBlock ≠ some q := fun ho ht q hq e => own_twoO h.l ho ht q e hq
  exact ⟨own_pastO h.t hg (ne h.t t_tn.symm), fun i hi => own_pastO (h.s i hi) hg (ne (h.s i hi) t_sn.symm), h.ap, own_pastO h.h hg (ne h.h t_in.symm), hown, own_pastO h.g hg (ne h.g t_ng), own_pastO h.n hg (ne h.n t_in.symm), h.hn, h.sT, h.sV, h.sH, h.sL, h.sG, h.sN⟩
theorem TW.markG (h : TW w S V vT vH vL vG vN m) (y : List Tr) (hown : w'.ownsRow 0 46 3 vG y.length (flat3 y)) (hg : w.grownBy w' vG.ownBlock) : TW w' S V vT vH vL vG vN { m with lg := y } := by
  have ne : ∀ {c n : Nat} {t : TypeId} {v : Value} {xs : List Value}, w.ownsRow 0 t c v n xs → 46 ≠ t → ∀ q, v.ownBlock = some q → vG.ownBlock ≠ some q := fun ho ht q hq e => own_twoO h.g ho ht q e hq
  exact ⟨own_pastO h.t hg (ne h.t t_tg.symm), fun i hi => own_pastO (h.s i hi) hg (ne (h.s i hi) t_sg.symm), h.ap, own_pastO h.h hg (ne h.h t_ig.symm), own_pastO h.l hg (ne h.l t_ng.symm), hown, own_pastO h.n hg (ne h.n t_ig.symm), h.hn, h.sT, h.sV, h.sH, h.sL, h.sG, h.sN⟩
end

set_option maxRecDepth 100000 in
set_option maxHeartbeats 2000000 in
theorem markStringSS_tw (S : Nat → Prop) (V : List Value) (aT : Option Addr) (n cT : Nat) (vH vL vG vN : Value) (m : Tm) (w : World) (hn : m.T.length = n) (hz : SmT m) (hW : TW w S V (.slice aT n cT) vH vL vG vN m) :
    Calls Try.prog 14 #[.slice aT n cT, .int .i64 1] w fun e w' => e = .returned (.int .i64 (c1 m)) ∧ TW w' S V (.slice aT n cT) vH vL vG vN (m1 m) ∧ Kept S w w' := by
  have hn5 : n ≤ 1048576 := by have := hz.t; omega
  have HW0 : Hid (TW w S V (.slice aT n cT) vH vL vG vN { m with T := mkUp 1 m.T 0 }) := by rw [mkUp_zero]; exact hide hW
  have HZ := hide hz
  have HN := hide hn
  have HA : Hid (0 < n → ∃ gb, aT = some ⟨gb, 0, none⟩) := hide (fun h0 => by
    rcases hW.t.2 with ⟨hv, h1⟩ | ⟨g, cap, cur, hv, _⟩
    · omega
    · obtain ⟨e, _, _⟩ := Value.slice.inj hv; exact ⟨g, e⟩)
  clear hW hz hn
  go_enter Try.func14, Try.ntmps14
  go_wp2
  go_loopw [1, 5] (fun k i wr => ∃ j : Nat, j ≤ n ∧ i = .int .i64 j ∧ k = .int .i64 (1 + (pre m.T j : Int)) ∧ Hid (TW wr S V (.slice aT n cT) vH vL vG vN { m with T := mkUp 1 m.T j }) ∧ Hid (Kept S w wr)) (fun _ i _ => n - (intOf i).toNat)
  case atStart => exact ⟨0, Nat.zero_le _, rfl, rfl, HW0, hide (Kept.refl S w)⟩
  case round =>
    obtain ⟨j, hj, rfl, rfl, HW, HK⟩ := hrel
    by_cases hlt : j < n
    · obtain ⟨gb, rfl⟩ := HA.out (by omega)
      have hltI : (j : Int) < (n : Int) := by omega
      have hj0 : (0 : Int) ≤ (j : Int) := by omega
      have hjG : j < m.T.length := by rw [HN.out]; exact hlt
      have hjU : j < (mkUp 1 m.T j).length := by rw [mkUp_len]; exact hjG
      obtain ⟨b', o', eb, ai, ci, hc, hs⟩ := HW.out.texts j hjU
      cases eb
      rw [Nat.zero_add] at hc
      have hgl : ((mkUp 1 m.T j).getD j []).length = (m.T.getD j []).length := mkUp_gl 1 m.T j j hjG
      rw [show ({ m with T := mkUp 1 m.T j } : Tm).T = mkUp 1 m.T j from rfl, hgl] at hc
      have hl40 := HZ.out.s j hjG
      have hp : pre m.T j ≤ 1048576 := Nat.le_trans (pre_mono m.T j _ (Nat.le_of_lt hjG)) HZ.out.p
      have hown := HW.out.s j hjU
      obtain ⟨ai', ci', hv⟩ := own_shapeO hown
      obtain ⟨mm, hm⟩ : ∃ mm, mm = (m.T.getD j []).length := ⟨_, rfl⟩
      have hps : pre m.T (j + 1) = pre m.T j + mm := by rw [hm]; rfl
      have hvl := HW.out.lenV
      have hu : V[j]? = some (V.getD j nilV) := by simp [List.getD, List.getElem?_eq_getElem (show j < V.length by rw [hvl]; exact hjU)]
      have hcv := own_cellO (show wr.ownsRow 0 43 1 (.slice (some ⟨gb, 0, none⟩) n cT) n V from by
        have h := HW.out.t
        rw [show ({ m with T := mkUp 1 m.T j } : Tm).T.length = n by rw [mkUp_len]; exact HN.out] at h
        exact h) j _ hu
      rw [hc] at hcv
      have hv' : V.getD j nilV = .slice ai mm ci := by rw [hm]; exact (Option.some.inj hcv).symm
      have hown' : wr.ownsRow 0 9 1 (.slice ai mm ci) mm (mapS ((mkUp 1 m.T j).getD j [])) := by
        rw [← hv']
        have e : ((mkUp 1 m.T j).getD j []).length = mm := by rw [hgl, hm]
        rw [← e]
        exact hown
      rw [← hm] at hc hl40
      have C := hide (fun wx => markStringS_from 0 (.slice ai mm ci) ((mkUp 1 m.T j).getD j []) mm wx (1 + (pre m.T j : Int)) (by omega) (by omega) (by omega))
      have HOW := hide hown'
      have HV := hide hv'
      have HM := hide hm
      have HPS := hide hps
      clear hown hown' hv hv' hm hps hs hgl hcv hu hvl
      go_wp2_with fail
      refine (C.out _ HOW.out (Nat.zero_le _)).mono ?_
      rintro e w1 ⟨rfl, ho1, _, hg1⟩
      have hU : { m with T := mkUp 1 m.T (j + 1) } = ({ ({ m with T := mkUp 1 m.T j } : Tm) with T := (mkUp 1 m.T j).set j (mkS (1 + (pre m.T j : Int)) mm) } : Tm) := by
        rw [mkUp_succ 1 m.T j hjG, ← HM.out]
      have hW1 : TW w1 S V (.slice (some ⟨gb, 0, none⟩) n cT) vH vL vG vN { m with T := mkUp 1 m.T (j + 1) } := by
        rw [hU]
        refine HW.out.mark j hjU (mkS (1 + (pre m.T j : Int)) mm) ?_ ?_
        · rw [HV.out, mkS_len]; exact ho1
        · rw [HV.out]; exact hg1
      have hK1 : Kept S w w1 := HK.out.trans (kept_grown hg1 (fun q e => HW.out.sV j hjU q (by rw [HV.out]; exact e))) (fun q _ h => h)
      have H1 := hide hW1
      have K1 := hide hK1
      clear hU hW1 hK1 ho1 hg1 C
      go_wp2
      go_roundw
      case rel => exact ⟨j + 1, by omega, by go_num, by rw [HPS.out]; simp; omega, H1, K1⟩
      case measure => simp [intOf]; omega
    · obtain rfl : j = n := by omega
      have hltI : ¬ (j : Int) < (j : Int) := by omega
      go_wp2
      go_ret
      refine ⟨?_, ?_, HK.out⟩
      · show _ = Ending.returned (.int .i64 (1 + (pre m.T m.T.length : Int)))
        rw [HN.out]
        rfl
      · show TW _ S V _ vH vL vG vN { m with T := mkUp 1 m.T m.T.length }
        rw [HN.out]
        exact HW.out

set_option maxRecDepth 100000 in
set_option maxHeartbeats 2000000 in
theorem heldStringSS_tl (aT : Option Addr) (n cT : Nat) (m : Tm) (w : World) (hn : m.T.length = n) (hz : SmT m) (hF : SlSS w aT (mkUp 1 m.T n)) :
    Calls Try.prog 18 #[.slice aT n cT, .int .i64 1] w fun e w' => e = .returned (.int .i64 (c1 m)) ∧ Below w.heap.size w w' := by
  have hn5 : n ≤ 1048576 := by have := hz.t; omega
  have HC : Hid (∀ i, i < n → ∃ b off ai ci, aT = some ⟨b, off, none⟩ ∧ w.cell? ⟨b, off + i, none⟩ = some (.slice ai (m.T.getD i []).length ci) ∧ SlS w ai (mkS (1 + (pre m.T i : Int)) (m.T.getD i []).length)) := hide (fun i hi => by
    obtain ⟨b, off, ea, ai, ci, hc, hs⟩ := hF i (by rw [mkUp_len, hn]; exact hi)
    have e1 : (mkUp 1 m.T n).getD i [] = mkS (1 + (pre m.T i : Int)) (m.T.getD i []).length := by rw [mkUp_get 1 m.T n i (by omega), if_pos hi]
    rw [e1, mkS_len] at hc
    rw [e1] at hs
    exact ⟨b, off, ai, ci, ea, hc, hs⟩)
  have HZ := hide hz
  have HN := hide hn
  clear hF hz hn
  go_enter Try.func18, Try.ntmps18
  go_wp2
  go_loopw [1, 5] (fun k i wr => ∃ j : Nat, j ≤ n ∧ i = .int .i64 j ∧ k = .int .i64 (1 + (pre m.T j : Int)) ∧ Hid (Below w.heap.size w wr)) (fun _ i _ => n - (intOf i).toNat)
  case atStart => exact ⟨0, Nat.zero_le _, rfl, rfl, hide (Below.refl _ _)⟩
  case round =>
    obtain ⟨j, hj, rfl, rfl, HB⟩ := hrel
    by_cases hlt : j < n
    · obtain ⟨b, off, ai, ci, rfl, hc0, hs0⟩ := HC.out j hlt
      have hc := (HB.out.cell (p := ⟨b, off + j, none⟩) (blk_lt hc0)).trans hc0
      have hs := hs0.below HB.out
      have hltI : (j : Int) < (n : Int) := by omega
      have hj0 : (0 : Int) ≤ (j : Int) := by omega
      have hjG : j < m.T.length := by rw [HN.out]; exact hlt
      have hl40 := HZ.out.s j hjG
      have hp : pre m.T j ≤ 1048576 := Nat.le_trans (pre_mono m.T j _ (Nat.le_of_lt hjG)) HZ.out.p
      obtain ⟨mm, hm⟩ : ∃ mm, mm = (m.T.getD j []).length := ⟨_, rfl⟩
      have hps : pre m.T (j + 1) = pre m.T j + mm := by rw [hm]; rfl
      rw [← hm] at hc hl40 hs
      have C := hide (heldStringS_from ai mm ci wr (1 + (pre m.T j : Int)) (by omega) (by omega) (by omega) hs)
      have HPS := hide hps
      have hcn : ¬ 1 + (pre m.T j : Int) + (mm : Int) < 0 := by omega
      clear hm hps hc0 hs hs0
      go_wp2_with fail
      refine C.out.mono ?_
      rintro e w1 ⟨rfl, hb1⟩
      have H1 := hide (HB.out.trans (hb1.mono HB.out.size))
      clear hb1 C
      go_wp2
      go_roundw
      case rel => exact ⟨j + 1, by omega, by go_num, by rw [HPS.out]; simp; omega, H1⟩
      case measure => simp [intOf]; omega
    · obtain rfl : j = n := by omega
      have hltI : ¬ (j : Int) < (j : Int) := by omega
      go_wp2
      go_ret
      refine ⟨?_, HB.out⟩
      show _ = Ending.returned (.int .i64 (1 + (pre m.T m.T.length : Int)))
      rw [HN.out]
      rfl

set_option maxRecDepth 100000 in
set_option maxHeartbeats 4000000 in
theorem markTell_tw (S : Nat → Prop) (V : List Value) (aT : Option Addr) (nT cT : Nat) (aH : Option Addr) (nH cH : Nat) (aL : Option Addr) (nL cL : Nat) (aG : Option Addr) (nG cG : Nat) (aN : Option Addr) (nN cN : Nat) (m : Tm) (w : World) (hT : m.T.length = nT) (hH : m.hd.length = nH) (hL : m.ln.length = nL) (hG : m.lg.length = nG) (hN : m.nx.length = nN) (hz : SmT m) (hS : ∀ q, S q → q < w.heap.size) (hW : TW w S V (.slice aT nT cT) (.slice aH nH cH) (.slice aL nL cL) (.slice aG nG cG) (.slice aN nN cN) m) :
    Calls Try.prog 7 #[tlV aT nT cT aH nH cH aL nL cL aG nG cG aN nN cN, .int .i64 1] w fun e w' => e = .returned (.int .i64 (c5 m)) ∧ TW w' S V (.slice aT nT cT) (.slice aH nH cH) (.slice aL nL cL) (.slice aG nG cG) (.slice aN nN cN) (m5 m) ∧ Kept S w w' := by
  have hpp := hz.p
  have z1 := hz.h
  have z2 := hz.l
  have z3 := hz.g
  have z4 := hz.n
  obtain ⟨k1, hk1⟩ : ∃ k, k = c1 m := ⟨_, rfl⟩
  have b1 : 1 ≤ k1 ∧ k1 ≤ 1048577 := by rw [hk1]; unfold c1; omega
  obtain ⟨b1a, b1b⟩ := b1
  have BX := (Below.refl w.heap.size w).alloc (Nat.le_refl _) (tlO aT nT cT aH nH cH aL nL cL aG nG cG aN nN cN)
  have HX := hide (kept_below (S := S) BX)
  have nS : Hid (¬ S w.heap.size) := hide (fun h => by have := hS _ h; omega)
  have O0 := hide (hW.below BX)
  have GX := hide (blk_newO w (tlO aT nT cT aH nH cH aL nL cL aG nG cG aN nN cN))
  have HLT : Hid (w.heap.size < (w.alloc (tlO aT nT cT aH nH cH aL nL cL aG nG cG aN nN cN)).heap.size) := hide (by simp)
  have CE := hide (fun wx => markStringSS_tw S V aT nT cT (.slice aH nH cH) (.slice aL nL cL) (.slice aG nG cG) (.slice aN nN cN) m wx hT hz)
  rw [← hk1] at CE
  have HK := hide hk1
  have HH := hide hH
  have HL := hide hL
  have HG := hide hG
  have HN := hide hN
  rw [hH] at z1
  rw [hL] at z2
  rw [hG] at z3
  rw [hN] at z4
  clear hW BX hS hk1 hz hpp hT hH hL hG hN
  go_enter Try.func7, Try.ntmps7
  go_wp2_with fail
  refine (CE.out _ O0.out).mono ?_
  rintro e w1 ⟨rfl, hW1, hK1⟩
  have G1 := hide ((hK1.block w.heap.size HLT.out nS.out).trans GX.out)
  have K1 := hide (HX.out.trans hK1 (fun q _ h => h))
  have O1 := hide hW1
  clear hW1 hK1 CE O0 GX HX HLT
  obtain ⟨k_0, k_1, k_2, k_3, k_4⟩ := blk5 G1.out
  have D1 : Hid (w1.ownsRow 0 3 1 (.slice aH nH cH) nH (m.hd.map (Value.int .i64))) := by
    have h := O1.out.h
    rw [show (m1 m).hd.length = _ from HH.out] at h
    exact hide h
  go_wp2_with fail
  refine (markIntS_from 0 _ m.hd nH _ k1 (by omega) (by omega) (by omega) D1.out).mono ?_
  rintro e w2 ⟨rfl, hd2, _, hg2⟩
  have hW2 : TW w2 S V (.slice aT nT cT) (.slice aH nH cH) (.slice aL nL cL) (.slice aG nG cG) (.slice aN nN cN) (m2 m) := O1.out.markH (mkC (c1 m) m.hd.length) (by rw [mkC_len, HH.out]; rw [← HK.out]; exact hd2) hg2
  have hk2 := kept_grown (S := S) hg2 (fun q e => O1.out.sH q e)
  have G2 := hide ((hk2.block w.heap.size (Array.getElem?_eq_some_iff.1 G1.out).1 nS.out).trans G1.out)
  have K2 := hide (K1.out.trans hk2 (fun q _ h => h))
  have O2 := hide hW2
  clear hW2 hk2 hd2 hg2 O1 D1 K1 k_0 k_1 k_2 k_3 k_4 G1
  obtain ⟨k_0, k_1, k_2, k_3, k_4⟩ := blk5 G2.out
  have D1 : Hid (w2.ownsRow 0 48 4 (.slice aL nL cL) nL (flat4 m.ln)) := by
    have h := O2.out.l
    rw [show (m2 m).ln.length = _ from HL.out] at h
    exact hide h
  go_wp2_with fail
  refine (markNoteS_from 0 _ m.ln nL _ (k1 + (nH : Int)) (by omega) (by omega) (by omega) D1.out (Nat.zero_le _)).mono ?_
  rintro e w3 ⟨rfl, hd2, _, hg2⟩
  have hW2 : TW w3 S V (.slice aT nT cT) (.slice aH nH cH) (.slice aL nL cL) (.slice aG nG cG) (.slice aN nN cN) (m3 m) := O2.out.markL (mk4 (c2 m) m.ln.length) (by rw [mk4_len, HL.out]; unfold c2; rw [HH.out, ← HK.out]; exact hd2) hg2
  have hk2 := kept_grown (S := S) hg2 (fun q e => O2.out.sL q e)
  have G3 := hide ((hk2.block w.heap.size (Array.getElem?_eq_some_iff.1 G2.out).1 nS.out).trans G2.out)
  have K3 := hide (K2.out.trans hk2 (fun q _ h => h))
  have O3 := hide hW2
  clear hW2 hk2 hd2 hg2 O2 D1 K2 k_0 k_1 k_2 k_3 k_4 G2
  obtain ⟨k_0, k_1, k_2, k_3, k_4⟩ := blk5 G3.out
  have D1 : Hid (w3.ownsRow 0 46 3 (.slice aG nG cG) nG (flat3 m.lg)) := by
    have h := O3.out.g
    rw [show (m3 m).lg.length = _ from HG.out] at h
    exact hide h
  go_wp2_with fail
  refine (markToldS_from 0 _ m.lg nG _ (k1 + (nH : Int) + 4 * (nL : Int)) (by omega) (by omega) (by omega) D1.out (Nat.zero_le _)).mono ?_
  rintro e w4 ⟨rfl, hd2, _, hg2⟩
  have hW2 : TW w4 S V (.slice aT nT cT) (.slice aH nH cH) (.slice aL nL cL) (.slice aG nG cG) (.slice aN nN cN) (m4 m) := O3.out.markG (mk3 (c3 m) m.lg.length) (by rw [mk3_len, HG.out]; unfold c3 c2; rw [HH.out, HL.out, ← HK.out]; exact hd2) hg2
  have hk2 := kept_grown (S := S) hg2 (fun q e => O3.out.sG q e)
  have G4 := hide ((hk2.block w.heap.size (Array.getElem?_eq_some_iff.1 G3.out).1 nS.out).trans G3.out)
  have K4 := hide (K3.out.trans hk2 (fun q _ h => h))
  have O4 := hide hW2
  clear hW2 hk2 hd2 hg2 O3 D1 K3 k_0 k_1 k_2 k_3 k_4 G3
  obtain ⟨k_0, k_1, k_2, k_3, k_4⟩ := blk5 G4.out
  have D1 : Hid (w4.ownsRow 0 3 1 (.slice aN nN cN) nN (m.nx.map (Value.int .i64))) := by
    have h := O4.out.n
    rw [show (m4 m).nx.length = _ from HN.out] at h
    exact hide h
  go_wp2_with fail
  refine (markIntS_from 0 _ m.nx nN _ (k1 + (nH : Int) + 4 * (nL : Int) + 3 * (nG : Int)) (by omega) (by omega) (by omega) D1.out).mono ?_
  rintro e w5 ⟨rfl, hd2, _, hg2⟩
  have hW2 : TW w5 S V (.slice aT nT cT) (.slice aH nH cH) (.slice aL nL cL) (.slice aG nG cG) (.slice aN nN cN) (m5 m) := O4.out.markN (mkC (c4 m) m.nx.length) (by rw [mkC_len, HN.out]; unfold c4 c3 c2; rw [HH.out, HL.out, HG.out, ← HK.out]; exact hd2) hg2
  have hk2 := kept_grown (S := S) hg2 (fun q e => O4.out.sN q e)
  have G5 := hide ((hk2.block w.heap.size (Array.getElem?_eq_some_iff.1 G4.out).1 nS.out).trans G4.out)
  have K5 := hide (K4.out.trans hk2 (fun q _ h => h))
  have O5 := hide hW2
  clear hW2 hk2 hd2 hg2 O4 D1 K4 k_0 k_1 k_2 k_3 k_4 G4
  go_wp2
  go_ret
  refine ⟨?_, O5.out, K5.out⟩
  unfold c5 c4 c3 c2
  rw [HH.out, HL.out, HG.out, HN.out, ← HK.out]
  rfl

set_option maxRecDepth 100000 in
set_option maxHeartbeats 4000000 in
theorem heldTell_tl (aT : Option Addr) (nT cT : Nat) (aH : Option Addr) (nH cH : Nat) (aL : Option Addr) (nL cL : Nat) (aG : Option Addr) (nG cG : Nat) (aN : Option Addr) (nN cN : Nat) (m : Tm) (w : World) (hT : m.T.length = nT) (hH : m.hd.length = nH) (hL : m.ln.length = nL) (hG : m.lg.length = nG) (hN : m.nx.length = nN) (hz : SmT m) (hF : TlF w aT aH aL aG aN (m5 m)) :
    Calls Try.prog 8 #[tlV aT nT cT aH nH cH aL nL cL aG nG cG aN nN cN, .int .i64 1] w fun e w' => e = .returned (.int .i64 (c5 m)) ∧ Below w.heap.size w w' := by
  have hpp := hz.p
  have z1 := hz.h
  have z2 := hz.l
  have z3 := hz.g
  have z4 := hz.n
  obtain ⟨k1, hk1⟩ : ∃ k, k = c1 m := ⟨_, rfl⟩
  have b1 : 1 ≤ k1 ∧ k1 ≤ 1048577 := by rw [hk1]; unfold c1; omega
  obtain ⟨b1a, b1b⟩ := b1
  have BX := (Below.refl w.heap.size w).alloc (Nat.le_refl _) (tlO aT nT cT aH nH cH aL nL cL aG nG cG aN nN cN)
  have HX := hide BX
  have hrp := (hF.below BX)
  have FH := hide hrp.h
  rw [show (m5 m).hd = mkC k1 nH by show mkC (c1 m) m.hd.length = _; rw [← hk1, hH]] at FH
  have FL := hide hrp.l
  rw [show (m5 m).ln = mk4 (k1 + (nH : Int)) nL by show mk4 (c1 m + (m.hd.length : Int)) m.ln.length = _; rw [← hk1, hH, hL]] at FL
  have FG := hide hrp.g
  rw [show (m5 m).lg = mk3 (k1 + (nH : Int) + 4 * (nL : Int)) nG by show mk3 (c1 m + (m.hd.length : Int) + 4 * (m.ln.length : Int)) m.lg.length = _; rw [← hk1, hH, hL, hG]] at FG
  have FN := hide hrp.n
  rw [show (m5 m).nx = mkC (k1 + (nH : Int) + 4 * (nL : Int) + 3 * (nG : Int)) nN by show mkC (c1 m + (m.hd.length : Int) + 4 * (m.ln.length : Int) + 3 * (m.lg.length : Int)) m.nx.length = _; rw [← hk1, hH, hL, hG, hN]] at FN
  have GX := hide (blk_newO w (tlO aT nT cT aH nH cH aL nL cL aG nG cG aN nN cN))
  have CE := hide (heldStringSS_tl aT nT cT m _ hT hz (by have h := hrp.t; rw [show (m5 m).T = mkUp 1 m.T nT by show mkUp 1 m.T m.T.length = _; rw [hT]] at h; exact h))
  rw [← hk1] at CE
  have HE : Hid (c5 m = k1 + (nH : Int) + 4 * (nL : Int) + 3 * (nG : Int) + (nN : Int)) := hide (by unfold c5 c4 c3 c2; rw [hH, hL, hG, hN, ← hk1])
  rw [hH] at z1
  rw [hL] at z2
  rw [hG] at z3
  rw [hN] at z4
  obtain ⟨wa, hwa⟩ : ∃ wa, wa = w.alloc (tlO aT nT cT aH nH cH aL nL cL aG nG cG aN nN cN) := ⟨_, rfl⟩
  rw [← hwa] at HX FH FL FG FN GX CE
  have HWA := hide hwa
  clear hF BX hk1 hz hpp hT hH hL hG hN hrp hwa
  go_enter Try.func8, Try.ntmps8
  go_upto_region 1 with fail
  rw [← HWA.out]
  obtain ⟨k_0, k_1, k_2, k_3, k_4⟩ := blk5 GX.out
  go_wp2_with fail
  refine CE.out.mono ?_
  rintro e w1 ⟨rfl, hb⟩
  have B1 := hide hb
  have n1 : ¬ k1 < 0 := by omega
  clear hb CE k_0 k_1 k_2 k_3 k_4
  have G1 := (B1.out.block w.heap.size (Array.getElem?_eq_some_iff.1 GX.out).1).trans GX.out
  obtain ⟨k_0, k_1, k_2, k_3, k_4⟩ := blk5 G1
  clear G1
  go_wp2_with fail
  refine (heldIntS_from aH nH cH k1 _ (by omega) (by omega) (by omega) (FH.out.below B1.out)).mono ?_
  rintro e w2 ⟨rfl, hb⟩
  have B2 := hide (B1.out.trans (hb.mono B1.out.size))
  have n2 : ¬ k1 + (nH : Int) < 0 := by omega
  clear hb k_0 k_1 k_2 k_3 k_4
  have G1 := (B2.out.block w.heap.size (Array.getElem?_eq_some_iff.1 GX.out).1).trans GX.out
  obtain ⟨k_0, k_1, k_2, k_3, k_4⟩ := blk5 G1
  clear G1
  go_wp2_with fail
  refine (heldNoteS_from aL nL cL _ (k1 + (nH : Int)) (by omega) (by omega) (by omega) (FL.out.below B2.out)).mono ?_
  rintro e w3 ⟨rfl, hb⟩
  have B3 := hide (B2.out.trans (hb.mono B2.out.size))
  have n3 : ¬ k1 + (nH : Int) + 4 * (nL : Int) < 0 := by omega
  clear hb k_0 k_1 k_2 k_3 k_4
  have G1 := (B3.out.block w.heap.size (Array.getElem?_eq_some_iff.1 GX.out).1).trans GX.out
  obtain ⟨k_0, k_1, k_2, k_3, k_4⟩ := blk5 G1
  clear G1
  go_wp2_with fail
  refine (heldToldS_any aG nG cG _ (k1 + (nH : Int) + 4 * (nL : Int)) (by omega) (by omega) (by omega) (FG.out.below B3.out)).mono ?_
  rintro e w4 ⟨rfl, hb⟩
  have B4 := hide (B3.out.trans (hb.mono B3.out.size))
  have n4 : ¬ k1 + (nH : Int) + 4 * (nL : Int) + 3 * (nG : Int) < 0 := by omega
  clear hb k_0 k_1 k_2 k_3 k_4
  have G1 := (B4.out.block w.heap.size (Array.getElem?_eq_some_iff.1 GX.out).1).trans GX.out
  obtain ⟨k_0, k_1, k_2, k_3, k_4⟩ := blk5 G1
  clear G1
  go_wp2_with fail
  refine (heldIntS_from aN nN cN (k1 + (nH : Int) + 4 * (nL : Int) + 3 * (nG : Int)) _ (by omega) (by omega) (by omega) (FN.out.below B4.out)).mono ?_
  rintro e w5 ⟨rfl, hb⟩
  have B5 := hide (B4.out.trans (hb.mono B4.out.size))
  have n5 : ¬ k1 + (nH : Int) + 4 * (nL : Int) + 3 * (nG : Int) + (nN : Int) < 0 := by omega
  clear hb k_0 k_1 k_2 k_3 k_4
  go_wp2
  go_ret
  exact ⟨by rw [HE.out]; rfl, HX.out.trans (B5.out.mono HX.out.size)⟩
end Go.Proofs.Ythmekhhfihjclaf.L10
