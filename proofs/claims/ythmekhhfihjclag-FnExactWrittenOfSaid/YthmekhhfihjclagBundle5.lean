/-
  Contract: spec.WrittenOf.
  Contracts: impl.NewTell, spec.NewTell: a new world of tellers in new memory.
  A row of bytes as a text. Nothing of the program's text is proved here but closed facts on its types.
  Contract of the laws' own helper markText: the same text of a number each time.
  What markStringS writes.
  Contract of the laws' own helper markStringS.
  Contract of the laws' own helper heldStringS.
  What markNoteS writes. Nothing of the program's text is proved here.
-/
import Derived.Test.YthmekhhfihjclagBundle2
import Derived.Test.YthmekhhfihjclagBundle4
import Derived.Maps.AppendAt
import Derived.Deep.DeepCutAuto
import Derived.Test.YthmekhhfihjclagBundle3
import Derived.Laws.MakeOwn
import Derived.Deep.RegionWith
import Derived.Test.YthmekhhfihjclagBundle1
import Derived.Deep.RegionHeld3
namespace Go.Proofs.Ythmekhhfihjclag.L10
open Go.RowKit L1 Own Str Nte Tri
set_option linter.unusedVariables false

set_option maxRecDepth 100000 in
set_option maxHeartbeats 8000000 in
theorem specWritten_any (aT : Option Addr) (nT cT : Nat) (aH : Option Addr) (nH cH : Nat) (aL : Option Addr) (nL cL : Nat) (aG : Option Addr) (nG cG : Nat) (aN : Option Addr) (nN cN : Nat) (m : Tm) (w : World) (hz : TlZ m nT nH nL nG nN) (hF : TlF w aT aH aL aG aN m) (who : Int) (L : List ByteArray) (ok : Bool) (hv : WrIs m who L ok) :
    Calls Try.prog 29 #[tlV aT nT cT aH nH cH aL nL cL aG nG cG aN nN cN, .int .i64 who] w fun e w' => RetL w L ok e w' := by
  have bT : nT ≤ 1048576 := hz.bt
  have bG : nG ≤ 1048576 := hz.bg
  have BX := (Below.refl w.heap.size w).alloc (Nat.le_refl _) (tlO aT nT cT aH nH cH aL nL cL aG nG cG aN nN cN)
  have g0 := blk_newO w (tlO aT nT cT aH nH cH aL nL cL aG nG cG aN nN cN)
  obtain ⟨W0, hW0⟩ : ∃ W0, W0 = w.alloc (tlO aT nT cT aH nH cH aL nL cL aG nG cG aN nN cN) := ⟨_, rfl⟩
  have hs0 : W0.heap.size = w.heap.size + 1 := by rw [hW0]; simp
  rw [← hW0] at BX g0
  have HW := hide hW0
  have F0 := hide (hF.below BX)
  have HB := hide BX
  have HG := hide g0
  have HGL : Hid (w.heap.size < W0.heap.size) := hide (by omega)
  have HV := hide hv
  have HZ := hide hz
  obtain ⟨k0, k1, k2, k3, k4⟩ := blk5 g0
  clear hW0 g0 hv hz hF BX hs0
  obtain ⟨b1, hb1⟩ := dec_ex (GoodT m)
  obtain ⟨b2, hb2⟩ := dec_ex (0 ≤ who ∧ who < (nT : Int))
  have C1 := hide (specGoodTell_any aT nT cT aH nH cH aL nL cL aG nG cG aN nN cN m W0 HZ.out F0.out b1 hb1)
  have H1 := hide hb1
  have H2 := hide hb2
  have C2 := hide (fun wx => l10Who_any aT nT cT aH nH cH aL nL cL aG nG cG aN nN cN m wx who bT b2 hb2)
  clear hb1 hb2
  go_enter Try.func29, Try.ntmps29
  go_upto_region 1 with fail
  rw [← HW.out]
  go_wp2_with fail
  refine C1.out.mono ?_
  rintro e w1 ⟨rfl, hx⟩
  have B1 := hide hx
  have g1 := (hx.block w.heap.size HGL.out).trans HG.out
  clear hx k0 k1 k2 k3 k4
  obtain ⟨k0, k1, k2, k3, k4⟩ := blk5 g1
  clear g1
  cases b1 with
  | false =>
    obtain ⟨rfl, rfl⟩ := HV.out.no (fun h => by have := H1.out.2 h.1; cases this)
    go_wp2
    go_ret2
    exact retL_none (HB.out.trans (B1.out.mono HB.out.size))
  | true =>
    have HGD := hide (H1.out.1 (by first | rfl | trivial))
    go_wp2_with fail
    refine (C2.out _).mono ?_
    rintro e w2 ⟨rfl, hx⟩
    have B2 := hide (B1.out.trans (hx.mono B1.out.size))
    have g2 := (B2.out.block w.heap.size HGL.out).trans HG.out
    clear hx k0 k1 k2 k3 k4
    obtain ⟨k0, k1, k2, k3, k4⟩ := blk5 g2
    clear g2
    cases b2 with
    | false =>
      obtain ⟨rfl, rfl⟩ := HV.out.no (fun h => by have := H2.out.2 ⟨h.2.1, by have h3 := h.2.2; rw [HZ.out.t] at h3; exact h3⟩; cases this)
      go_wp2
      go_ret2
      exact retL_none (HB.out.trans (B2.out.mono HB.out.size))
    | true =>
      have h12 := H2.out.1 (by first | rfl | trivial)
      obtain ⟨hL, rfl⟩ := HV.out.yes ⟨HGD.out, h12.1, by rw [HZ.out.t]; exact h12.2⟩
      rw [HZ.out.g] at hL
      have HL := hide hL
      clear hL h12
      obtain ⟨i0, hi, hz0, hz1, hz2⟩ := info_parts info_strS
      go_wp2
      clear k0 k1 k2 k3 k4
      go_loopw [6, 21] (fun o i wr => ∃ (k : Nat) (n : Nat) (da : Option Addr) (dc : Nat), k ≤ nG ∧ i = .int .i64 k ∧ o = .slice da n dc ∧ Hid (n = (wtK who m.lg k).length) ∧ Hid (wr.ownsRow W0.heap.size 9 1 (.slice da n dc) n (mapS (wtK who m.lg k))) ∧ Hid (Below W0.heap.size W0 wr)) (fun _ i _ => nG - (intOf i).toNat)
      case atStart => exact ⟨0, 0, none, 0, Nat.zero_le _, rfl, rfl, hide rfl, hide (World.ownsRow_nil _ _ _ _), B2⟩
      case round =>
        obtain ⟨k, n, da, dc, hk, rfl, rfl, HNN, HO, HR⟩ := hrel
        by_cases hlt : k < nG
        · obtain ⟨gb, go, ea, p0, p1, p2⟩ := F0.out.g k (by rw [HZ.out.g]; exact hlt)
          subst ea
          have q0 := (HR.out.cell (p := ⟨gb, go + k * 3, none⟩) (blk_lt p0)).trans p0
          have q1 := (HR.out.cell (p := ⟨gb, go + k * 3 + 1, none⟩) (blk_lt p1)).trans p1
          have q2 := (HR.out.cell (p := ⟨gb, go + k * 3 + 2, none⟩) (blk_lt p2)).trans p2
          have hltI : (k : Int) < (nG : Int) := by omega
          obtain ⟨xw, hxw⟩ : ∃ x, x = (m.lg.getD k e3).1 := ⟨_, rfl⟩
          obtain ⟨xn, hxn⟩ : ∃ x, x = (m.lg.getD k e3).2.1 := ⟨_, rfl⟩
          obtain ⟨t, ht⟩ : ∃ x, x = (m.lg.getD k e3).2.2 := ⟨_, rfl⟩
          rw [← hxw] at q0
          rw [← hxn] at q1
          rw [← ht] at q2
          have HX : Hid (m.lg.getD k e3 = (xw, xn, t)) := by show _ = _; rw [hxw, hxn, ht]
          have A1 := (Below.refl wr.heap.size wr).alloc (Nat.le_refl _) (.cells #[.int .i64 xw, .int .i64 xn, .string t] 75 (0, 0))
          have gx := blk_newO wr (.cells #[.int .i64 xw, .int .i64 xn, .string t] 75 (0, 0))
          obtain ⟨W1, hW1⟩ : ∃ W1, W1 = wr.alloc (.cells #[.int .i64 xw, .int .i64 xn, .string t] 75 (0, 0)) := ⟨_, rfl⟩
          rw [← hW1] at A1 gx
          have x0 : W1.cell? ⟨wr.heap.size, 0, none⟩ = some (.int .i64 xw) := by simp [World.cell?, gx]
          have x1 : W1.cell? ⟨wr.heap.size, 1, none⟩ = some (.int .i64 xn) := by simp [World.cell?, gx]
          have x2 : W1.cell? ⟨wr.heap.size, 2, none⟩ = some (.string t) := by simp [World.cell?, gx]
          have HW1 := hide hW1
          have HA := hide (HR.out.trans (A1.mono HR.out.size))
          have O1 := hide (own_belO HO.out A1)
          have hnb : n ≤ 1048576 := by have h1 := wtK_len who m.lg k; have h2 := HNN.out; omega
          clear p0 p1 p2 hxw hxn ht gx A1 hW1
          by_cases e : xw = who
          · have HEW := hide e
            have f1 : (xw == who) = true := by rw [e]; simp
            clear e
            have O2 := hide (own_belO O1.out ((Below.refl W1.heap.size W1).alloc (Nat.le_refl _) (.cells #[.string t] 9)))
            have hb4 : W0.heap.size ≤ (W1.alloc (.cells #[.string t] 9)).heap.size := by have h1 := HA.out.size; simp; omega
            go_upto_region 7 with fail
            rw [← HW1.out]
            go_wp2_with (first
              | (at_builtin; refine wpList_append_own_at _ rfl _ _ 58 rfl W0.heap.size 9 i0 (.string ByteArray.empty) 1 16 Try.underlying58 hi hz0 hz1 hz2 rfl (by decide) (.slice da n dc) n _ rfl O2.out ⟨W1.heap.size, 0, none⟩ 1 1 [.string t] rfl rfl (cell_one_newO _ _ _) (by intro u hu; simp at hu; subst hu; rfl) (by unfold maxLen; omega) (by omega) hb4 ?_)
              | go_in)
            intro v6 w6 hown6 hg6 _ hb6
            obtain ⟨a6, c6, rfl⟩ : ∃ a c, v6 = .slice a (n + 1) c := by
              rcases hown6.2 with ⟨_, h0⟩ | ⟨g, cap, cur, hv, _⟩
              · omega
              · exact ⟨_, cap, hv⟩
            have eK : wtK who m.lg (k + 1) = wtK who m.lg k ++ [t] := by
              show (if (m.lg.getD k e3).1 = who then wtK who m.lg k ++ [(m.lg.getD k e3).2.2] else wtK who m.lg k) = _
              rw [HX.out]
              rw [if_pos HEW.out]
            have R1 : Hid (n + 1 = (wtK who m.lg (k + 1)).length) := hide (by rw [eK]; simp; exact HNN.out)
            have R2 : Hid (w6.ownsRow W0.heap.size 9 1 (.slice a6 (n + 1) c6) (n + 1) (mapS (wtK who m.lg (k + 1)))) := hide (by rw [eK]; show w6.ownsRow _ _ _ _ _ ((wtK who m.lg k ++ [t]).map Value.string); rw [List.map_append]; exact hown6)
            have R3 : Hid (Below W0.heap.size W0 w6) := hide ((HA.out.alloc HA.out.size (.cells #[.string t] 9)).grown hg6 hb4 (fun q hq => own_ge O2.out q hq))
            clear hown6 hg6 hb6 eK O2 O1
            go_wp2
            go_roundw
            case rel => exact ⟨k + 1, n + 1, a6, c6, by omega, by go_num, rfl, R1, R2, R3⟩
            case measure => simp [intOf]; omega
          · have f1 : (xw == who) = false := by simpa using e
            have eK : wtK who m.lg (k + 1) = wtK who m.lg k := by
              show (if (m.lg.getD k e3).1 = who then wtK who m.lg k ++ [(m.lg.getD k e3).2.2] else wtK who m.lg k) = _
              rw [HX.out]
              rw [if_neg e]
            have R1 : Hid (n = (wtK who m.lg (k + 1)).length) := hide (by rw [eK]; exact HNN.out)
            have R2 : Hid (W1.ownsRow W0.heap.size 9 1 (.slice da n dc) n (mapS (wtK who m.lg (k + 1)))) := hide (by rw [eK]; exact O1.out)
            clear eK
            go_upto_region 7 with fail
            rw [← HW1.out]
            go_wp2
            go_roundw
            case rel => exact ⟨k + 1, n, da, dc, by omega, by go_num, rfl, R1, R2, HA⟩
            case measure => simp [intOf]; omega
        · obtain rfl : k = nG := by omega
          have hltI : ¬ (k : Int) < (k : Int) := by omega
          go_wp2
          go_ret2
          have hn := HNN.out
          rw [← HL.out] at hn
          refine ⟨da, dc, by rw [← hn]; rfl, ?_, HB.out.trans (HR.out.mono HB.out.size)⟩
          have h := HO.out
          rw [← HL.out, hn] at h
          exact own_from (own_zero h) (fun q hq => Nat.le_of_lt (Nat.lt_of_lt_of_le HGL.out (own_ge h q hq)))
end Go.Proofs.Ythmekhhfihjclag.L10

namespace Go.Proofs.Ythmekhhfihjclag.L10
open Go.RowKit L1 Own Str Nte Tri
set_option linter.unusedVariables false

theorem info_strsT : (Try.prog.info? 58).map (fun i => (i.zero, i.size, i.bytes)) = some (some (.slice none 0 0), 1, 24) := by kernel_rfl
abbrev oT (n : Nat) : Obj := .cells (madeCells (Value.slice none 0 0).cells (n * 1)) 58 (0, 0)
abbrev oI (n : Nat) : Obj := .cells (madeCells (Value.int .i64 0).cells (n * 1)) 3 (0, 0)
theorem mk_texts (n : Nat) (h : n ≤ 4) : ∃ OA : Obj, OA = oT n ∧ ∀ w, (Instr.makeSlice 22 (.int .i64 (n : Int)) (.int .i64 (n : Int))).run Try.prog w = .ok (.slice (some ⟨w.heap.size, 0, none⟩) n n) (w.alloc OA) := by
  obtain ⟨i0, hi, hz0, hz1, hz2⟩ := info_parts info_strsT
  refine ⟨_, rfl, fun w => ?_⟩
  have hr := run_make (P := Try.prog) w 22 58 i0 (.slice none 0 0) Try.underlying22 hi hz0 .i64 .i64 (n : Int) (n : Int) (by omega) (Int.le_refl _) (by rw [hz2]; omega) (by omega)
  simp only [Int.toNat_natCast, hz1] at hr
  exact hr
theorem mk_ints (n : Nat) (h : n ≤ 4) : ∃ OB : Obj, OB = oI n ∧ ∀ w, (Instr.makeSlice 23 (.int .i64 (n : Int)) (.int .i64 (n : Int))).run Try.prog w = .ok (.slice (some ⟨w.heap.size, 0, none⟩) n n) (w.alloc OB) := by
  obtain ⟨i0, hi, hz0, hz1, hz2⟩ := info_parts info_int
  refine ⟨_, rfl, fun w => ?_⟩
  have hr := run_make (P := Try.prog) w 23 3 i0 (.int .i64 0) Try.underlying23 hi hz0 .i64 .i64 (n : Int) (n : Int) (by omega) (Int.le_refl _) (by rw [hz2]; omega) (by omega)
  simp only [Int.toNat_natCast, hz1] at hr
  exact hr
def newT (m : Nat) : Tm := ⟨List.replicate m [], List.replicate m 0, [], [], List.replicate m 0⟩
/-- A world of tellers that a call hands back, in new memory. -/
def RetT (w : World) (m : Tm) (ok : Bool) (e : Ending) (w' : World) : Prop :=
  ∃ V aT cT aH cH aL cL aG cG aN cN, e = .returned (.tuple #[tlV aT m.T.length cT aH m.hd.length cH aL m.ln.length cL aG m.lg.length cG aN m.nx.length cN, .bool ok]) ∧ TW w' (fun q => w.heap.size ≤ q ∧ q < w'.heap.size) V (.slice aT m.T.length cT) (.slice aH m.hd.length cH) (.slice aL m.ln.length cL) (.slice aG m.lg.length cG) (.slice aN m.nx.length cN) m ∧ Below w.heap.size w w'
abbrev zeroT : Tm := ⟨[], [], [], [], []⟩
theorem tw_zero (w : World) (S : Nat → Prop) : TW w S [] nilV nilV nilV nilV nilV zeroT :=
  ⟨World.ownsRow_nil _ _ _ _, fun i hi => absurd hi (Nat.not_lt_zero _), fun i k q hi => absurd hi (Nat.not_lt_zero _), World.ownsRow_nil _ _ _ _, World.ownsRow_nil _ _ _ _, World.ownsRow_nil _ _ _ _, World.ownsRow_nil _ _ _ _, fun q hq => (by cases hq), fun q hq => (by cases hq), fun i hi => absurd hi (Nat.not_lt_zero _), fun q hq => (by cases hq), fun q hq => (by cases hq), fun q hq => (by cases hq), fun q hq => (by cases hq)⟩
theorem retT_none {w w' : World} (hb : Below w.heap.size w w') : RetT w zeroT false (.returned (.tuple #[tlV none 0 0 none 0 0 none 0 0 none 0 0 none 0 0, .bool false])) w' :=
  ⟨[], none, 0, none, 0, none, 0, none, 0, none, 0, rfl, tw_zero _ _, hb⟩
theorem own_madeT {w : World} {base g n : Nat} {z : Value} {t : TypeId} (hz : z.cells = #[z]) (h : w.heap[g]? = some (.cells (madeCells z.cells (n * 1)) t (0, 0))) (hb : base ≤ g) (hn : n ≤ maxLen) : w.ownsRow base t 1 (.slice (some ⟨g, 0, none⟩) n n) n (List.replicate n z) := by
  have e : (madeCells z.cells (n * 1)).toList = List.replicate n z := by
    rw [hz, Nat.mul_one, toList_madeCells_one]
  have e2 : (madeCells z.cells (n * 1)).size = n * 1 := size_madeCells _ _
  exact ⟨by simp, .inr ⟨g, n, _, rfl, hb, h, Nat.le_refl _, hn, e2, by rw [e]; simp⟩⟩
theorem new_lens (m : Nat) : (newT m).T.length = m ∧ (newT m).hd.length = m ∧ (newT m).ln.length = 0 ∧ (newT m).lg.length = 0 ∧ (newT m).nx.length = m := by simp [newT]
theorem new_ret {w W : World} {m x y z : Nat} (hm : m ≤ 4) (hx : W.heap[x]? = some (oT m)) (hy : W.heap[y]? = some (oI m)) (hz : W.heap[z]? = some (oI m)) (lx : w.heap.size ≤ x) (ly : w.heap.size ≤ y) (lz : w.heap.size ≤ z) (hyz : y ≠ z) (hb : Below w.heap.size w W) :
    RetT w (newT m) true (.returned (.tuple #[tlV (some ⟨x, 0, none⟩) m m (some ⟨y, 0, none⟩) m m none 0 0 none 0 0 (some ⟨z, 0, none⟩) m m, .bool true])) W := by
  obtain ⟨e1, e2, e3, e4, e5⟩ := new_lens m
  have o1 := own_madeT (base := w.heap.size) (t := 58) (z := .slice none 0 0) rfl hx lx (by unfold maxLen; omega)
  have o2 := own_madeT (base := w.heap.size) (t := 3) (z := .int .i64 0) rfl hy ly (by unfold maxLen; omega)
  have o3 := own_madeT (base := w.heap.size) (t := 3) (z := .int .i64 0) rfl hz lz (by unfold maxLen; omega)
  have ins : ∀ {c n : Nat} {t : TypeId} {v : Value} {xs : List Value}, W.ownsRow w.heap.size t c v n xs → InS (fun q => w.heap.size ≤ q ∧ q < W.heap.size) v := fun ho q hq => ⟨own_ge ho q hq, own_ltO ho q hq⟩
  have hn : ∀ i, (List.replicate m nilV).getD i nilV = nilV := fun i => by
    simp only [List.getD, List.getElem?_replicate]
    split <;> rfl
  have hr : ∀ i, (List.replicate m ([] : List ByteArray)).getD i [] = [] := fun i => by
    simp only [List.getD, List.getElem?_replicate]
    split <;> rfl
  refine ⟨List.replicate m nilV, some ⟨x, 0, none⟩, m, some ⟨y, 0, none⟩, m, none, 0, none, 0, some ⟨z, 0, none⟩, m, by rw [e1, e2, e3, e4, e5], ?_, hb⟩
  rw [e1, e2, e3, e4, e5]
  refine ⟨by rw [e1]; exact own_zero o1, fun i hi => ?_, fun i k q _ _ _ e => ?_, ?_, World.ownsRow_nil _ _ _ _, World.ownsRow_nil _ _ _ _, ?_, fun q e e2 => ?_, ins o1, fun i _ q e => ?_, ins o2, fun q hq => (by cases hq), fun q hq => (by cases hq), ins o3⟩
  · rw [hn, show (newT m).T.getD i [] = [] from hr i]
    exact World.ownsRow_nil _ _ _ _
  · rw [hn] at e; cases e
  · rw [e2, show (newT m).hd = List.replicate m 0 from rfl, List.map_replicate]
    exact own_zero o2
  · rw [e5, show (newT m).nx = List.replicate m 0 from rfl, List.map_replicate]
    exact own_zero o3
  · have e' : y = q := Option.some.inj e
    have e2' : z = q := Option.some.inj e2
    omega
  · rw [hn] at e; cases e
theorem heap4T (w : World) (z a b c : Obj) : ((((w.alloc z).alloc a).alloc b).alloc c).drew.heap[w.heap.size + 1]? = some a ∧ ((((w.alloc z).alloc a).alloc b).alloc c).drew.heap[w.heap.size + 1 + 1]? = some b ∧ ((((w.alloc z).alloc a).alloc b).alloc c).drew.heap[w.heap.size + 1 + 1 + 1]? = some c ∧ Below w.heap.size w ((((w.alloc z).alloc a).alloc b).alloc c).drew := by
  have e : ((((w.alloc z).alloc a).alloc b).alloc c).drew.heap = (((w.heap.push z).push a).push b).push c := rfl
  refine ⟨?_, ?_, ?_, (((((Below.refl _ _).alloc (Nat.le_refl _) _).alloc (by simp) _).alloc (by simp; omega) _).alloc (by simp; omega) _).drew⟩
  · rw [e, Array.getElem?_push, if_neg (by simp only [Array.size_push]; omega), Array.getElem?_push, if_neg (by simp only [Array.size_push]; omega), Array.getElem?_push, if_pos (by simp only [Array.size_push])]
  · rw [e, Array.getElem?_push, if_neg (by simp only [Array.size_push]; omega), Array.getElem?_push, if_pos (by simp only [Array.size_push])]
  · rw [e, Array.getElem?_push, if_pos (by simp only [Array.size_push])]
set_option maxRecDepth 100000 in
set_option maxHeartbeats 4000000 in
theorem implNewT_yes (m : Nat) (w : World) (h1 : 1 ≤ m) (h4 : m ≤ 4) :
    Calls Try.prog 70 #[.int .i64 (m : Int)] w (RetT w (newT m) true) := by
  obtain ⟨OA, hOA, mk1⟩ := mk_texts m h4
  obtain ⟨OB, hOB, mk2⟩ := mk_ints m h4
  have HOA := hide hOA
  have HOB := hide hOB
  have g1 : ¬ (m : Int) < 1 := by omega
  have g4 : ¬ 4 < (m : Int) := by omega
  clear hOA hOB
  go_enter Try.func70, Try.ntmps70
  go_upto_region 3 with fail
  go_region_with (fail)
  all_goals (
    go_wp2_with fail
    first
      | (refine bodyPost_ret (v := .tuple #[tlV (some ⟨w.heap.size + 1, 0, none⟩) m m (some ⟨w.heap.size + 1 + 1, 0, none⟩) m m none 0 0 none 0 0 (some ⟨w.heap.size + 1 + 1 + 1, 0, none⟩) m m, .bool true]) ?_ rfl ?_; (focus (simp [results, Try.f70, go_sem]; done)); rw [HOA.out, HOB.out]; obtain ⟨q1, q2, q3, q4⟩ := heap4T w _ _ _ _; exact new_ret h4 q1 q2 q3 (by omega) (by omega) (by omega) (by omega) q4)
      | (refine bodyPost_ret (v := .tuple #[tlV (some ⟨w.heap.size + 1, 0, none⟩) m m (some ⟨w.heap.size + 1 + 1 + 1, 0, none⟩) m m none 0 0 none 0 0 (some ⟨w.heap.size + 1 + 1, 0, none⟩) m m, .bool true]) ?_ rfl ?_; (focus (simp [results, Try.f70, go_sem]; done)); rw [HOA.out, HOB.out]; obtain ⟨q1, q2, q3, q4⟩ := heap4T w _ _ _ _; exact new_ret h4 q1 q3 q2 (by omega) (by omega) (by omega) (by omega) q4)
      | (refine bodyPost_ret (v := .tuple #[tlV (some ⟨w.heap.size + 1 + 1, 0, none⟩) m m (some ⟨w.heap.size + 1, 0, none⟩) m m none 0 0 none 0 0 (some ⟨w.heap.size + 1 + 1 + 1, 0, none⟩) m m, .bool true]) ?_ rfl ?_; (focus (simp [results, Try.f70, go_sem]; done)); rw [HOA.out, HOB.out]; obtain ⟨q1, q2, q3, q4⟩ := heap4T w _ _ _ _; exact new_ret h4 q2 q1 q3 (by omega) (by omega) (by omega) (by omega) q4)
      | (refine bodyPost_ret (v := .tuple #[tlV (some ⟨w.heap.size + 1 + 1, 0, none⟩) m m (some ⟨w.heap.size + 1 + 1 + 1, 0, none⟩) m m none 0 0 none 0 0 (some ⟨w.heap.size + 1, 0, none⟩) m m, .bool true]) ?_ rfl ?_; (focus (simp [results, Try.f70, go_sem]; done)); rw [HOA.out, HOB.out]; obtain ⟨q1, q2, q3, q4⟩ := heap4T w _ _ _ _; exact new_ret h4 q2 q3 q1 (by omega) (by omega) (by omega) (by omega) q4)
      | (refine bodyPost_ret (v := .tuple #[tlV (some ⟨w.heap.size + 1 + 1 + 1, 0, none⟩) m m (some ⟨w.heap.size + 1, 0, none⟩) m m none 0 0 none 0 0 (some ⟨w.heap.size + 1 + 1, 0, none⟩) m m, .bool true]) ?_ rfl ?_; (focus (simp [results, Try.f70, go_sem]; done)); rw [HOA.out, HOB.out]; obtain ⟨q1, q2, q3, q4⟩ := heap4T w _ _ _ _; exact new_ret h4 q3 q1 q2 (by omega) (by omega) (by omega) (by omega) q4)
      | (refine bodyPost_ret (v := .tuple #[tlV (some ⟨w.heap.size + 1 + 1 + 1, 0, none⟩) m m (some ⟨w.heap.size + 1 + 1, 0, none⟩) m m none 0 0 none 0 0 (some ⟨w.heap.size + 1, 0, none⟩) m m, .bool true]) ?_ rfl ?_; (focus (simp [results, Try.f70, go_sem]; done)); rw [HOA.out, HOB.out]; obtain ⟨q1, q2, q3, q4⟩ := heap4T w _ _ _ _; exact new_ret h4 q3 q2 q1 (by omega) (by omega) (by omega) (by omega) q4))
set_option maxRecDepth 100000 in
set_option maxHeartbeats 4000000 in
theorem specNewT_yes (m : Nat) (w : World) (h1 : 1 ≤ m) (h4 : m ≤ 4) :
    Calls Try.prog 69 #[.int .i64 (m : Int)] w (RetT w (newT m) true) := by
  obtain ⟨OA, hOA, mk1⟩ := mk_texts m h4
  obtain ⟨OB, hOB, mk2⟩ := mk_ints m h4
  have HOA := hide hOA
  have HOB := hide hOB
  have C := hide (fun wx => l1In_any (m : Int) 1 4 wx true (by simp; omega))
  clear hOA hOB
  go_enter Try.func69, Try.ntmps69
  go_wp2_with fail
  refine (C.out _).mono ?_
  rintro e w1 ⟨rfl, rfl⟩
  go_upto_region 3 with fail
  go_region_with (fail)
  all_goals (
    go_wp2_with fail
    first
      | (refine bodyPost_ret (v := .tuple #[tlV (some ⟨w.heap.size + 1, 0, none⟩) m m (some ⟨w.heap.size + 1 + 1, 0, none⟩) m m none 0 0 none 0 0 (some ⟨w.heap.size + 1 + 1 + 1, 0, none⟩) m m, .bool true]) ?_ rfl ?_; (focus (simp [results, Try.f69, go_sem]; done)); rw [HOA.out, HOB.out]; obtain ⟨q1, q2, q3, q4⟩ := heap4T w _ _ _ _; exact new_ret h4 q1 q2 q3 (by omega) (by omega) (by omega) (by omega) q4)
      | (refine bodyPost_ret (v := .tuple #[tlV (some ⟨w.heap.size + 1, 0, none⟩) m m (some ⟨w.heap.size + 1 + 1 + 1, 0, none⟩) m m none 0 0 none 0 0 (some ⟨w.heap.size + 1 + 1, 0, none⟩) m m, .bool true]) ?_ rfl ?_; (focus (simp [results, Try.f69, go_sem]; done)); rw [HOA.out, HOB.out]; obtain ⟨q1, q2, q3, q4⟩ := heap4T w _ _ _ _; exact new_ret h4 q1 q3 q2 (by omega) (by omega) (by omega) (by omega) q4)
      | (refine bodyPost_ret (v := .tuple #[tlV (some ⟨w.heap.size + 1 + 1, 0, none⟩) m m (some ⟨w.heap.size + 1, 0, none⟩) m m none 0 0 none 0 0 (some ⟨w.heap.size + 1 + 1 + 1, 0, none⟩) m m, .bool true]) ?_ rfl ?_; (focus (simp [results, Try.f69, go_sem]; done)); rw [HOA.out, HOB.out]; obtain ⟨q1, q2, q3, q4⟩ := heap4T w _ _ _ _; exact new_ret h4 q2 q1 q3 (by omega) (by omega) (by omega) (by omega) q4)
      | (refine bodyPost_ret (v := .tuple #[tlV (some ⟨w.heap.size + 1 + 1, 0, none⟩) m m (some ⟨w.heap.size + 1 + 1 + 1, 0, none⟩) m m none 0 0 none 0 0 (some ⟨w.heap.size + 1, 0, none⟩) m m, .bool true]) ?_ rfl ?_; (focus (simp [results, Try.f69, go_sem]; done)); rw [HOA.out, HOB.out]; obtain ⟨q1, q2, q3, q4⟩ := heap4T w _ _ _ _; exact new_ret h4 q2 q3 q1 (by omega) (by omega) (by omega) (by omega) q4)
      | (refine bodyPost_ret (v := .tuple #[tlV (some ⟨w.heap.size + 1 + 1 + 1, 0, none⟩) m m (some ⟨w.heap.size + 1, 0, none⟩) m m none 0 0 none 0 0 (some ⟨w.heap.size + 1 + 1, 0, none⟩) m m, .bool true]) ?_ rfl ?_; (focus (simp [results, Try.f69, go_sem]; done)); rw [HOA.out, HOB.out]; obtain ⟨q1, q2, q3, q4⟩ := heap4T w _ _ _ _; exact new_ret h4 q3 q1 q2 (by omega) (by omega) (by omega) (by omega) q4)
      | (refine bodyPost_ret (v := .tuple #[tlV (some ⟨w.heap.size + 1 + 1 + 1, 0, none⟩) m m (some ⟨w.heap.size + 1 + 1, 0, none⟩) m m none 0 0 none 0 0 (some ⟨w.heap.size + 1, 0, none⟩) m m, .bool true]) ?_ rfl ?_; (focus (simp [results, Try.f69, go_sem]; done)); rw [HOA.out, HOB.out]; obtain ⟨q1, q2, q3, q4⟩ := heap4T w _ _ _ _; exact new_ret h4 q3 q2 q1 (by omega) (by omega) (by omega) (by omega) q4))
theorem five_zero {w : World} (v0 v1 v2 v3 v4 : Value) : Below w.heap.size w (((((w.alloc zT).setCell ⟨w.heap.size, 0, none⟩ v0).setCell ⟨w.heap.size, 1, none⟩ v1).setCell ⟨w.heap.size, 2, none⟩ v2).setCell ⟨w.heap.size, 3, none⟩ v3 |>.setCell ⟨w.heap.size, 4, none⟩ v4) :=
  ((((((Below.refl w.heap.size w).alloc (Nat.le_refl _) zT).setCell (p := ⟨w.heap.size, 0, none⟩) (Nat.le_refl _) _).setCell (p := ⟨w.heap.size, 1, none⟩) (Nat.le_refl _) _).setCell (p := ⟨w.heap.size, 2, none⟩) (Nat.le_refl _) _).setCell (p := ⟨w.heap.size, 3, none⟩) (Nat.le_refl _) _).setCell (p := ⟨w.heap.size, 4, none⟩) (Nat.le_refl _) _
set_option maxRecDepth 100000 in
set_option maxHeartbeats 4000000 in
theorem implNewT_no (k : Int) (w : World) (h : ¬ (1 ≤ k ∧ k ≤ 4)) :
    Calls Try.prog 70 #[.int .i64 k] w (RetT w zeroT false) := by
  have ZB := hide ((Below.refl w.heap.size w).alloc (Nat.le_refl _) zT)
  by_cases h1 : k < 1
  · go_enter Try.func70, Try.ntmps70
    go_wp2
    refine bodyPost_ret (v := .tuple #[tlV none 0 0 none 0 0 none 0 0 none 0 0 none 0 0, .bool false]) (by simp [results, Try.f70, go_sem]) rfl (retT_none ?_)
    first | exact ZB.out | exact five_zero _ _ _ _ _
  · have h4 : 4 < k := by omega
    go_enter Try.func70, Try.ntmps70
    go_wp2
    refine bodyPost_ret (v := .tuple #[tlV none 0 0 none 0 0 none 0 0 none 0 0 none 0 0, .bool false]) (by simp [results, Try.f70, go_sem]) rfl (retT_none ?_)
    first | exact ZB.out | exact five_zero _ _ _ _ _
set_option maxRecDepth 100000 in
set_option maxHeartbeats 4000000 in
theorem specNewT_no (k : Int) (w : World) (h : ¬ (1 ≤ k ∧ k ≤ 4)) :
    Calls Try.prog 69 #[.int .i64 k] w (RetT w zeroT false) := by
  have ZB := hide ((Below.refl w.heap.size w).alloc (Nat.le_refl _) zT)
  have C := hide (fun wx => l1In_any k 1 4 wx false (by simp only [Bool.false_eq_true, false_iff]; exact h))
  clear h
  go_enter Try.func69, Try.ntmps69
  go_wp2_with fail
  refine (C.out _).mono ?_
  rintro e w1 ⟨rfl, rfl⟩
  go_wp2
  refine bodyPost_ret (v := .tuple #[tlV none 0 0 none 0 0 none 0 0 none 0 0 none 0 0, .bool false]) (by simp [results, Try.f69, go_sem]) rfl (retT_none ?_)
  first | exact ZB.out | exact five_zero _ _ _ _ _
/-- What NewTell answers. -/
structure NwIs (k : Int) (m : Tm) (ok : Bool) : Prop where
  yes : 1 ≤ k ∧ k ≤ 4 → m = newT k.toNat ∧ ok = true
  no : ¬ (1 ≤ k ∧ k ≤ 4) → m = zeroT ∧ ok = false
open Classical in
theorem new_is (k : Int) : ∃ m ok, NwIs k m ok := by
  by_cases h : 1 ≤ k ∧ k ≤ 4
  · exact ⟨_, _, fun _ => ⟨rfl, rfl⟩, fun h2 => absurd h h2⟩
  · exact ⟨_, _, fun h2 => absurd h2 h, fun _ => ⟨rfl, rfl⟩⟩
theorem implNewT_any (k : Int) (m : Tm) (ok : Bool) (w : World) (hv : NwIs k m ok) : Calls Try.prog 70 #[.int .i64 k] w (RetT w m ok) := by
  by_cases h : 1 ≤ k ∧ k ≤ 4
  · obtain ⟨rfl, rfl⟩ := hv.yes h
    have := implNewT_yes k.toNat w (by omega) (by omega)
    rw [show ((k.toNat : Nat) : Int) = k by omega] at this
    exact this
  · obtain ⟨rfl, rfl⟩ := hv.no h
    exact implNewT_no k w h
theorem specNewT_any (k : Int) (m : Tm) (ok : Bool) (w : World) (hv : NwIs k m ok) : Calls Try.prog 69 #[.int .i64 k] w (RetT w m ok) := by
  by_cases h : 1 ≤ k ∧ k ≤ 4
  · obtain ⟨rfl, rfl⟩ := hv.yes h
    have := specNewT_yes k.toNat w (by omega) (by omega)
    rw [show ((k.toNat : Nat) : Int) = k by omega] at this
    exact this
  · obtain ⟨rfl, rfl⟩ := hv.no h
    exact specNewT_no k w h
end Go.Proofs.Ythmekhhfihjclag.L10

namespace Go.Proofs.Ythmekhhfihjclag.L1
open Go.RowKit
set_option linter.unusedVariables false

theorem info_u8 : (Try.prog.info? 5).map (fun i => (i.zero, i.size, i.bytes)) = some (some (.int .u8 0), 1, 1) := by kernel_rfl

/-- A row of bytes that a call owns, as a text. -/
theorem conv_own {w : World} {base : Nat} {v : Value} {n : Nat} {l : List Int} (hown : w.ownsRow base 5 1 v n (l.map (Value.int .u8))) (hn : 0 < n) :
    (convert 113 9 v).run Try.prog w = .ok (.string (strOfNums l)) w := by
  have hlen := hown.1
  rcases hown.2 with ⟨_, h0⟩ | ⟨g, cap, cur, rfl, hb, hg, hle, hm, hs, ht⟩
  · omega
  · simp at hlen
    exact run_convert_bytes_arg w 113 5 Try.underlying113 Try.underlying5 g 0 n cap l hlen (fun i hi => by
      have := hown.cells (g := g) rfl i (.int .u8 (l.getD i 0)) (by
        rw [List.getElem?_map, List.getElem?_eq_getElem (by omega)]
        simp [List.getD, List.getElem?_eq_getElem (show i < l.length by omega)])
      rw [addr_add] at this
      simpa using this) 9 Try.underlying9
end Go.Proofs.Ythmekhhfihjclag.L1

namespace Go.Proofs.Ythmekhhfihjclag.L3
open Go.RowKit L1
set_option linter.unusedVariables false

/-- A number's digits. -/
def dgN (k : Nat) : List Int := if h : k = 0 then [] else dgN (k / 10) ++ [48 + ((k % 10 : Nat) : Int)]
termination_by k
decreasing_by omega
theorem dgN_zero : dgN 0 = [] := by rw [dgN]; simp
theorem dgN_succ (k : Nat) (h : k ≠ 0) : dgN k = dgN (k / 10) ++ [48 + ((k % 10 : Nat) : Int)] := by
  conv => lhs; rw [dgN]
  rw [dif_neg h]
theorem dgN_len (k : Nat) : (dgN k).length ≤ k := by
  induction k using Nat.strongRecOn with
  | _ k ih =>
    by_cases h : k = 0
    · rw [h, dgN_zero]; simp
    · rw [dgN_succ k h]
      have := ih (k / 10) (by omega)
      simp only [List.length_append, List.length_cons, List.length_nil]
      omega
theorem str_app (l m : List Int) : strOfNums (l ++ m) = strOfNums l ++ strOfNums m := by
  apply ByteArray.ext
  apply Array.toList_inj.1
  show _ = (ByteArray.append (strOfNums l) (strOfNums m)).data.toList
  simp [strOfNums, ByteArray.append]
theorem str_size (l : List Int) : (strOfNums l).size = l.length := by
  show (strOfNums l).data.size = _
  simp [strOfNums]
/-- The text that marks a number. -/
def mkT (k : Int) : ByteArray := if k ≤ 0 then ⟨#[109, 48]⟩ else strOfNums (109 :: dgN k.toNat)

set_option maxRecDepth 100000 in
set_option maxHeartbeats 1000000 in
theorem markText_any (k : Int) (w : World) (h0 : 0 < k) (h1 : k ≤ 4294967296) :
    Calls Try.prog 72 #[.int .i64 k] w fun e w' => e = .returned (.string (mkT k)) ∧ Below w.heap.size w w' := by
  obtain ⟨n, rfl⟩ : ∃ n : Nat, k = (n : Int) := ⟨k.toNat, by omega⟩
  have hk : ¬ (n : Int) ≤ 0 := by omega
  have HT : Hid (mkT (n : Int) = strOfNums [109] ++ strOfNums (dgN n)) := by
    show mkT (n : Int) = _
    unfold mkT
    rw [if_neg hk, ← str_app]
    simp
  have HL := hide (dgN_len n)
  go_enter Try.func72, Try.ntmps72
  go_wp2
  go_loopw [0, 3] (fun kv o wr => ∃ (j : Nat) (L : List Int), j ≤ n ∧ kv = .int .i64 j ∧ o = .string (strOfNums L) ∧ Hid (dgN j ++ L = dgN n) ∧ Below w.heap.size w wr) (fun kv _ _ => (intOf kv).toNat)
  case atStart => exact ⟨n, [], Nat.le_refl _, rfl, rfl, by show dgN n ++ [] = dgN n; simp, Below.refl _ _⟩
  case round =>
    obtain ⟨j, L, hj, rfl, rfl, HD, hbel⟩ := hrel
    have hLs : L.length ≤ n := by
      have := congrArg List.length HD.out
      have h2 := HL.out
      rw [List.length_append] at this
      omega
    have hsz := str_size L
    have happ := fun d => str_app [d] L
    obtain ⟨A, hA⟩ : ∃ A, A = strOfNums L := ⟨_, rfl⟩
    rw [← hA] at hsz ⊢
    simp only [← hA] at happ
    have hA8 : (A.size : Int) ≤ 4294967296 := by omega
    have HA := hide hA
    have HAPP := hide happ
    clear hsz hA happ
    by_cases hj0 : 0 < (j : Int)
    · have hd : Int.tmod (j : Int) 10 = ((j % 10 : Nat) : Int) := by rw [Int.tmod_eq_emod_of_nonneg (by omega)]; omega
      have hq : Int.tdiv (j : Int) 10 = ((j / 10 : Nat) : Int) := by rw [Int.tdiv_eq_ediv_of_nonneg (by omega)]; omega
      have hst := dgN_succ j (by omega)
      have hd9 : j % 10 < 10 := Nat.mod_lt _ (by omega)
      have hjq : j / 10 < j := by omega
      obtain ⟨d, hde⟩ : ∃ d, d = j % 10 := ⟨_, rfl⟩
      obtain ⟨q, hqe⟩ : ∃ q, q = j / 10 := ⟨_, rfl⟩
      rw [← hde] at hd hst hd9
      rw [← hqe] at hq hst hjq
      have hcv : (convert 113 9 (.slice (some ⟨wr.heap.size, 0, none⟩) 1 1)).run Try.prog (wr.alloc (.cells #[.int .u8 (48 + (d : Int))] 5)) = .ok (.string (strOfNums [48 + (d : Int)])) (wr.alloc (.cells #[.int .u8 (48 + (d : Int))] 5)) :=
        run_convert_bytes_arg _ 113 5 Try.underlying113 Try.underlying5 wr.heap.size 0 1 1 [48 + (d : Int)] rfl (fun i hi => by
          obtain rfl : i = 0 := by omega
          simp) 9 Try.underlying9
      have hw8 : IntKind.u8.wrap (48 + (d : Int)) = 48 + (d : Int) := by
        simp only [IntKind.wrap, IntKind.bits, IntKind.signed]
        simp
        omega
      obtain ⟨D, hD⟩ : ∃ D, D = strOfNums [48 + (d : Int)] := ⟨_, rfl⟩
      have hDs : (D.size : Int) ≤ 8 := by rw [hD, str_size]; simp
      rw [← hD] at hcv
      have R : Hid (D ++ A = strOfNums ((48 + (d : Int)) :: L)) := by show D ++ A = _; rw [hD, ← HAPP.out]; rfl
      have R2 : Hid (dgN q ++ ((48 + (d : Int)) :: L) = dgN n) := by show _ = _; rw [← HD.out, hst]; simp
      have B0 := hide hbel
      clear hde hqe hD hst hbel
      go_wp2
      go_roundw
      case rel => exact ⟨q, (48 + (d : Int)) :: L, by omega, by go_num, by rw [R.out], R2.out, B0.out.alloc B0.out.size _⟩
      case measure => simp [intOf]; omega
    · obtain rfl : j = 0 := by omega
      have e : L = dgN n := by have := HD.out; rw [dgN_zero] at this; simpa using this
      have HE : Hid (mkT (n : Int) = ⟨#[109]⟩ ++ A) := by show mkT (n : Int) = _; rw [HT.out, HA.out, e]; rfl
      have B0 := hide hbel
      clear e hbel
      go_wp2
      go_ret
      exact ⟨by rw [HE.out]; rfl, B0.out⟩
end Go.Proofs.Ythmekhhfihjclag.L3

namespace Go.Proofs.Ythmekhhfihjclag.Str
open Go.RowKit L1 L3
set_option linter.unusedVariables false

def mkS (c : Int) (n : Nat) : List ByteArray := (List.range n).map fun i : Nat => mkT (c + (i : Int))
theorem mkS_len (c : Int) (n : Nat) : (mkS c n).length = n := by simp [mkS]
theorem mkS_get (c : Int) (n j : Nat) (h : j < n) : (mkS c n).getD j e0 = mkT (c + (j : Int)) := by
  simp [mkS, List.getD, h]
theorem grown_belowS {w w' : World} (h : Below w.heap.size w w') (row : Option Nat) : w.grownBy w' row := ⟨h.os, h.tape, h.output, h.size, fun k hk _ => h.block k hk⟩
theorem blk_ltS {w : World} {p : Addr} {v : Value} (h : w.cell? p = some v) : p.block < w.heap.size := by
  by_cases hb : p.block < w.heap.size
  · exact hb
  · simp [World.cell?, Array.getElem?_eq_none (show w.heap.size ≤ p.block by omega)] at h
theorem keep1S {wa wb W : World} {N : Nat} {p : Addr} {v : Value} (h : wa.cell? p = some v ∧ Below N W wa) (hb : Below wa.heap.size wa wb) (hN : N ≤ W.heap.size) : wb.cell? p = some v ∧ Below N W wb :=
  ⟨(hb.cell (blk_ltS h.1)).trans h.1, h.2.trans (hb.mono (Nat.le_trans hN h.2.size))⟩
end Go.Proofs.Ythmekhhfihjclag.Str

namespace Go.Proofs.Ythmekhhfihjclag.Str
open Go.RowKit L1 L3
set_option linter.unusedVariables false

set_option maxRecDepth 100000 in
set_option maxHeartbeats 4000000 in
theorem markStringS_from (base : Nat) (v : Value) (l : List ByteArray) (n : Nat) (w : World) (c : Int) (hcl0 : 0 < c) (hch : c ≤ 1073741824) (hn2 : n ≤ 1048576) (ho : w.ownsRow base 9 1 v n (mapS l)) (hbase : base ≤ w.heap.size) :
    Calls Try.prog 32 #[v, .int .i64 c] w fun e w' => e = .returned (.int .i64 (c + (n : Int))) ∧ w'.ownsRow base 9 1 v n (mapS (mkS c n)) ∧ Below base w w' ∧ w.grownBy w' v.ownBlock := by
  obtain ⟨a, cap0, rfl, _, hl0⟩ := own_formS ho
  by_cases hn0 : n = 0
  · subst hn0
    have hx : l = [] := List.eq_nil_of_length_eq_zero hl0
    subst hx
    have HO := hide ho
    clear ho hl0
    go_enter Try.func32, Try.ntmps32
    go_wp2
    go_loop [1, 5] (fun k i => k = .int .i64 c ∧ i = .int .i64 0) (fun _ _ => 0)
    case atStart => exact ⟨rfl, rfl⟩
    case round =>
      obtain ⟨rfl, rfl⟩ := hrel
      go_wp2
      go_ret
      exact ⟨by simp, HO.out, Below.refl _ _, World.grownBy.refl _ _⟩
  · obtain ⟨g, cap, e⟩ : ∃ g cap, Value.slice a n cap0 = .slice (some ⟨g, 0, none⟩) n cap := by
      rcases ho.2 with ⟨_, h0⟩ | ⟨g, cap, cur, hv, _⟩
      · omega
      · exact ⟨g, cap, hv⟩
    cases e
    have hge := (ho.lt g rfl).1
    have HO := hide ho
    have HL := hide hl0
    clear ho hl0 hn0
    go_enter Try.func32, Try.ntmps32
    go_wp2
    go_loopw [1, 5] (fun k i wr => ∃ (j : Nat) (ys : List ByteArray), j ≤ n ∧ i = .int .i64 j ∧ k = .int .i64 (c + (j : Int)) ∧ ys.length = n ∧ Hid (∀ t, t < j → ys.getD t e0 = (mkS c n).getD t e0) ∧
        wr.ownsRow base 9 1 (.slice (some ⟨g, 0, none⟩) n cap0) n (mapS ys) ∧ Below base w wr ∧ w.grownBy wr (some g)) (fun _ i _ => n - (intOf i).toNat)
    case atStart => exact ⟨0, l, by omega, rfl, by simp, HL.out, fun t ht => absurd ht (Nat.not_lt_zero _), HO.out, Below.refl _ _, World.grownBy.refl _ _⟩
    case round =>
      obtain ⟨j, ys, hj, rfl, rfl, hyl, HY, hown, hbel, hgr⟩ := hrel
      by_cases hlt : j < n
      · have hltI : (j : Int) < (n : Int) := by omega
        have C1 := hide (fun w => markText_any (c + (j : Int)) w (by omega) (by omega))
        obtain ⟨x, hx⟩ : ∃ x, x = mkT (c + (j : Int)) := ⟨_, rfl⟩
        simp only [← hx] at C1
        have hsz := hbel.size
        have HX := hide hx
        have HYL := hide hyl
        have O0 := hide hown
        have B0 := hide hbel
        have G0 := hide hgr
        clear hown hbel hgr hx hyl
        go_wp2_with fail
        refine (C1.out _).mono ?_
        rintro e w1 ⟨rfl, hb1⟩
        have hown1 := own_belowS O0.out hb1
        have hcl := hown1.cellAt j (by omega)
        have hfr := hown1.frozenAt j
        obtain ⟨u, hu⟩ : ∃ u, w1.cell? ⟨g, j, none⟩ = some u := ⟨_, hcl.trans (List.getElem?_eq_getElem (by simp [HYL.out]; omega))⟩
        have hs1 := hown1.stored j (.string x)
        have B1 := hide ((B0.out.trans (hb1.mono (Nat.le_trans hbase B0.out.size))).setCell (p := ⟨g, j, none⟩) hge (.string x))
        have G1 := hide (G0.out.trans ((grown_belowS hb1 _).trans hs1.2))
        have R : ∃ (j' : Nat) (ys' : List ByteArray), j' ≤ n ∧ Value.int .i64 ((j : Int) + 1) = .int .i64 j' ∧ Value.int .i64 (c + (j : Int) + 1) = .int .i64 (c + (j' : Int)) ∧ ys'.length = n ∧ Hid (∀ t, t < j' → ys'.getD t e0 = (mkS c n).getD t e0) ∧
            (w1.setCell ⟨g, j, none⟩ (.string x)).ownsRow base 9 1 (.slice (some ⟨g, 0, none⟩) n cap0) n (mapS ys') ∧ Below base w (w1.setCell ⟨g, j, none⟩ (.string x)) ∧ w.grownBy (w1.setCell ⟨g, j, none⟩ (.string x)) (some g) := by
          refine ⟨j + 1, ys.set j x, by omega, by simp, by simp; omega, by simpa using HYL.out, ?_, by rw [mapS_set]; exact hs1.1, B1.out, G1.out⟩
          intro t ht
          by_cases e : t = j
          · subst e
            rw [mkS_get c n t (by omega), HX.out]
            simp [List.getD, HYL.out, hlt]
          · rw [← HY.out t (by omega)]
            simp [List.getD, Ne.symm e]
        have HR := hide R
        clear hcl hs1 hown1 R hb1
        go_wp2
        go_roundw
        case rel => exact HR.out
        case measure => simp [intOf]; omega
      · obtain rfl : j = n := by omega
        have e : ys = mkS c j := list_sameS (mkS_len c j) hyl (fun t ht => HY.out t ht)
        subst e
        have hltI : ¬ (j : Int) < (j : Int) := by omega
        clear hyl
        go_wp2
        go_ret
        exact ⟨rfl, hown, hbel, hgr⟩
end Go.Proofs.Ythmekhhfihjclag.Str

namespace Go.Proofs.Ythmekhhfihjclag.Str
open Go.RowKit L1 L3
set_option linter.unusedVariables false

set_option maxRecDepth 100000 in
set_option maxHeartbeats 4000000 in
theorem heldStringS_from (a : Option Addr) (n cap : Nat) (w : World) (c : Int) (hcl0 : 0 < c) (hch : c ≤ 1073741824) (hn2 : n ≤ 1048576) (hs : SlS w a (mkS c n)) :
    Calls Try.prog 33 #[.slice a n cap, .int .i64 c] w fun e w' => e = .returned (.int .i64 (c + (n : Int))) ∧ Below w.heap.size w w' := by
  have HS := hide hs
  clear hs
  go_enter Try.func33, Try.ntmps33
  go_wp2
  go_loopw [1, 5] (fun k i wr => ∃ j : Nat, j ≤ n ∧ i = .int .i64 j ∧ k = .int .i64 (c + (j : Int)) ∧ Below w.heap.size w wr) (fun _ i _ => n - (intOf i).toNat)
  case atStart => exact ⟨0, by omega, rfl, by simp, Below.refl _ _⟩
  case round =>
    obtain ⟨j, hj, rfl, rfl, hbel⟩ := hrel
    by_cases hlt : j < n
    · obtain ⟨b, off, rfl, hc0⟩ := HS.out j (by rw [mkS_len]; exact hlt)
      rw [mkS_get c n j hlt] at hc0
      have hc := (hbel.cell (p := ⟨b, off + j, none⟩) (blk_lt hc0)).trans hc0
      have hltI : (j : Int) < (n : Int) := by omega
      have hj0 : (0 : Int) ≤ (j : Int) := by omega
      have C1 := hide (fun w => markText_any (c + (j : Int)) w (by omega) (by omega))
      obtain ⟨x, hx⟩ : ∃ x, x = mkT (c + (j : Int)) := ⟨_, rfl⟩
      rw [← hx] at hc
      simp only [← hx] at C1
      have hxx : (x.toList == x.toList) = true := by simp
      have B0 := hide hbel
      clear hc0 hx hbel
      go_wp2
      go_region_held3 (fun wx => wx.cell? ⟨b, off + j, none⟩ = some (.string x) ∧ Below wr.heap.size wr wx) (first | exact ⟨hc, (Below.refl _ _).drew⟩ | exact keep1S (by assumption) (by assumption) (Nat.le_refl _)) ((go_at_call 72; refine (C1.out _).mono ?_; rintro e w1 ⟨rfl, hb⟩))
      rename_i hHeld
      have B2 := hide (B0.out.trans (hHeld.2.mono B0.out.size))
      clear hHeld hc
      go_wp2
      go_roundw
      case rel => exact ⟨j + 1, by omega, by go_num, by go_num, B2.out⟩
      case measure => simp [intOf]; omega
    · have hltI : ¬ (j : Int) < (n : Int) := by omega
      obtain rfl : j = n := by omega
      go_wp2
      go_ret
      exact ⟨rfl, hbel⟩
end Go.Proofs.Ythmekhhfihjclag.Str

namespace Go.Proofs.Ythmekhhfihjclag.Nte
open Go.RowKit L1 L3
set_option linter.unusedVariables false

def b3 (c : Int) : Bool := c % 3 == 0
def mk4 (c : Int) (n : Nat) : List Nt := (List.range n).map fun i : Nat => (b3 (c + 4 * (i : Int)), c + 4 * (i : Int) + 1, c + 4 * (i : Int) + 1 + 1, mkT (c + 4 * (i : Int) + 1 + 1 + 1))
theorem mk4_len (c : Int) (n : Nat) : (mk4 c n).length = n := by simp [mk4]
theorem mk4_get (c : Int) (n j : Nat) (h : j < n) : (mk4 c n).getD j e4 = (b3 (c + 4 * (j : Int)), c + 4 * (j : Int) + 1, c + 4 * (j : Int) + 1 + 1, mkT (c + 4 * (j : Int) + 1 + 1 + 1)) := by
  simp [mk4, List.getD, h]
theorem grown_below4 {w w' : World} (h : Below w.heap.size w w') (row : Option Nat) : w.grownBy w' row := ⟨h.os, h.tape, h.output, h.size, fun k hk _ => h.block k hk⟩
theorem keep1N {wa wb : World} {B1 O1 N : Nat} {v1 : Value} {W : World} (h : wa.cell? ⟨B1, O1, none⟩ = some v1 ∧ Below N W wa) (hb : Below wa.heap.size wa wb) (hN : N ≤ W.heap.size) :
    wb.cell? ⟨B1, O1, none⟩ = some v1 ∧ Below N W wb :=
  ⟨(hb.cell (p := ⟨B1, O1, none⟩) (blk_lt h.1)).trans h.1, h.2.trans (hb.mono (Nat.le_trans hN h.2.size))⟩
end Go.Proofs.Ythmekhhfihjclag.Nte
