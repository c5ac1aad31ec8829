/-
  Contract: the windows of a run.
-/
import Derived.Test.YticgejaaoamhmapL16WinM
import Derived.Test.YticgejaaoamhmapL16RsM
import Derived.Test.YticgejaaoamhmapL16FL
import Derived.Test.YticgejaaoamhmapL16Cnt
import Derived.Test.YticgejaaoamhmapL16Ret
import Derived.Test.YticgejaaoamhmapL16Row
import Derived.Deep.RegionHeld3
namespace Go.Proofs.Yticgejaaoamhmap.L16
open Go.RowKit L1
set_option linter.unusedVariables false

theorem sl2_dropW {w : World} {g go : Nat} {l : List (Int × Int)} (h : Sl2 w (some ⟨g, go, none⟩) l) (m : Nat) : Sl2 w (some ⟨g, go + m * 2, none⟩) (l.drop m) := fun i hi => by
  have hi2 : m + i < l.length := by simp at hi; omega
  rw [getD_drop16 l m i]
  obtain ⟨b, off, e, h1, h2⟩ := h (m + i) hi2
  cases e
  exact ⟨g, go + m * 2, rfl, by rw [show go + m * 2 + i * 2 = go + (m + i) * 2 by omega]; exact h1, by rw [show go + m * 2 + i * 2 + 1 = go + (m + i) * 2 + 1 by omega]; exact h2⟩
/-- Where windows begin, up to a sample. -/
inductive Bs (l : List (Int × Int)) (s : Int) : List Nat → Nat → Prop
  | nil : Bs l s [] 0
  | snoc {P : List Nat} {p : Nat} (h : Bs l s P p) (hp : p < l.length) : Bs l s (P ++ [p]) (nxt l s p)
theorem Bs.win {l : List (Int × Int)} (hc : Ctr l) {s : Int} (hs : 1 ≤ s) {P : List Nat} {p : Nat} (h : Bs l s P p) : p ≤ l.length ∧ P.length ≤ p ∧ (p < l.length → p = 0 ∨ fr s (at_ l p) ≠ fr s (at_ l (p - 1))) ∧ winK l s p = P.map (wnAt l s) ∧ ∀ q ∈ P, q < l.length := by
  induction h with
  | nil => exact ⟨Nat.zero_le _, Nat.le_refl _, fun _ => .inl rfl, rfl, fun q hq => by cases hq⟩
  | @snoc P p h hp ih =>
    obtain ⟨h1, h2, h3, h4, h5⟩ := ih
    have n := nxt_spec hc hs hp
    refine ⟨n.2.1, by simp; omega, fun h6 => .inr (nxt_new hc hs hp h6), ?_, fun q hq => ?_⟩
    · rw [winK_nxt hc hs hp (h3 hp), h4, List.map_append]; rfl
    · rcases List.mem_append.1 hq with e | e
      · exact h5 q e
      · rw [List.mem_singleton.1 e]; exact hp
/-- The cells of windows as the program keeps them. -/
def flatP (b off : Nat) (l : List (Int × Int)) (s : Int) (cap : Nat) : List Nat → List Value
  | [] => []
  | p :: P => .slice (some ⟨b, off + p * 2, none⟩) (nxt l s p - p) (cap - p) :: .int .i64 (fr s (at_ l p)) :: flatP b off l s cap P
theorem flatP_append (b off : Nat) (l : List (Int × Int)) (s : Int) (cap : Nat) (P Q : List Nat) : flatP b off l s cap (P ++ Q) = flatP b off l s cap P ++ flatP b off l s cap Q := by
  induction P with
  | nil => rfl
  | cons p P ih => simp [flatP, ih]
theorem flatP_len (b off : Nat) (l : List (Int × Int)) (s : Int) (cap : Nat) : ∀ P : List Nat, (flatP b off l s cap P).length = P.length * 2
  | [] => rfl
  | p :: P => by simp [flatP, flatP_len b off l s cap P]; omega
theorem flatP_get (b off : Nat) (l : List (Int × Int)) (s : Int) (cap : Nat) : ∀ (P : List Nat) (i : Nat), i < P.length → (flatP b off l s cap P)[i * 2]? = some (.slice (some ⟨b, off + P.getD i 0 * 2, none⟩) (nxt l s (P.getD i 0) - P.getD i 0) (cap - P.getD i 0)) ∧ (flatP b off l s cap P)[i * 2 + 1]? = some (.int .i64 (fr s (at_ l (P.getD i 0))))
  | [], i, h => by simp at h
  | p :: P, 0, _ => ⟨rfl, rfl⟩
  | p :: P, i + 1, h => by
    have := flatP_get b off l s cap P i (by simpa using h)
    have e1 : (i + 1) * 2 = i * 2 + 1 + 1 := by omega
    rw [e1]
    simpa only [flatP, List.getElem?_cons_succ, List.getD_cons_succ] using this
theorem blk_kept16 {w w' : World} {g : Nat} {o : Obj} (h : w.heap[g]? = some o) (hb : Below w.heap.size w w') : w'.heap[g]? = some o := (hb.block g (Array.getElem?_eq_some_iff.1 h).1).trans h
theorem blk_grown16 {w w' : World} {g : Nat} {o : Obj} {r : Option Nat} (h : w.heap[g]? = some o) (hg : w.grownBy w' r) (hne : r ≠ some g) : w'.heap[g]? = some o :=
  (hg.block g (Array.getElem?_eq_some_iff.1 h).1 (fun e => hne e.symm)).trans h
/-- How long a slice in a cell is. -/
def runLen : Option Value → Nat
  | some (.slice _ n _) => n
  | _ => 0
theorem info_win : (Try.prog.info? 57).map (fun i => (i.zero, i.size, i.bytes)) = some (some (.agg #[.slice none 0 0, .int .i64 0]), 2, 32) := by kernel_rfl
theorem cell_twoW (w : World) (p q : Value) (t : TypeId) : ∀ j u, [p, q][j]? = some u → (w.alloc (.cells #[p, q] t)).cell? ((⟨w.heap.size, 0, none⟩ : Addr).add j) = some u := cell_two16 w p q t
theorem own_shapeW {w : World} {base n c : Nat} {t : TypeId} {v : Value} {xs : List Value} (h : w.ownsRow base t c v n xs) : ∃ a cap, v = .slice a n cap := by
  rcases h.2 with ⟨hv, h0⟩ | ⟨g, cap, cur, hv, _⟩
  · subst h0; exact ⟨none, 0, hv⟩
  · exact ⟨_, cap, hv⟩
theorem own_belowW {w w' : World} {base n c : Nat} {t : TypeId} {v : Value} {ys : List Value} (h : w.ownsRow base t c v n ys) (hb : Below w.heap.size w w') : w'.ownsRow base t c v n ys := by
  refine ⟨h.1, ?_⟩
  rcases h.2 with h0 | ⟨g, cap, cur, rfl, hbg, hg, r⟩
  · exact .inl h0
  · exact .inr ⟨g, cap, cur, rfl, hbg, by rw [hb.block g (Array.getElem?_eq_some_iff.1 hg).1]; exact hg, r⟩
theorem own_setW {w : World} {base n c : Nat} {t : TypeId} {v : Value} {ys : List Value} (h : w.ownsRow base t c v n ys) (p : Addr) (u : Value) (hp : p.block < base) : (w.setCell p u).ownsRow base t c v n ys := by
  refine ⟨h.1, ?_⟩
  rcases h.2 with h0 | ⟨g, cap, cur, rfl, hbg, hg, r⟩
  · exact .inl h0
  · exact .inr ⟨g, cap, cur, rfl, hbg, by rw [Below.heap_setCell _ _ _ _ (by omega)]; exact hg, r⟩
theorem blk1W {w : World} {g : Nat} {a : Value} {t : TypeId} (h : w.heap[g]? = some (.cells #[a] t (0, 0))) : w.cell? ⟨g, 0, none⟩ = some a ∧ w.frozen? ⟨g, 0, none⟩ = false := by
  simp [World.cell?, World.frozen?, h]
theorem set1W {w : World} {g : Nat} {a a' : Value} {t : TypeId} (h : w.heap[g]? = some (.cells #[a] t (0, 0))) : (w.setCell ⟨g, 0, none⟩ a').heap[g]? = some (.cells #[a'] t (0, 0)) := by
  have hlt := (Array.getElem?_eq_some_iff.1 h).1
  have he := (Array.getElem?_eq_some_iff.1 h).2
  simp [World.setCell, Array.getElem_modify, he, hlt]
set_option maxRecDepth 100000 in
set_option maxHeartbeats 4000000 in
theorem windows_any (b off : Nat) (l : List (Int × Int)) (n cap : Nat) (s : Int) (w : World) (hn : l.length = n) (hs : Sl2 w (some ⟨b, off, none⟩) l) (hc : Ctr l) (hcap : n ≤ cap) (h1 : 1 ≤ s ∧ s ≤ 1000000) :
    Calls Try.prog 36 #[.agg #[.slice (some ⟨b, off, none⟩) n cap], .int .i64 s] w fun e w' => ∃ v P, e = .returned v ∧ Bs l s P n ∧ w'.ownsRow w.heap.size 57 2 v P.length (flatP b off l s cap P) ∧ Below w.heap.size w w' := by
  have h40 : n ≤ 40 := by have := hc.len; omega
  obtain ⟨i1, hi1, hy0, hy1, hy2⟩ := info_parts info_win
  have BX := (Below.refl w.heap.size w).alloc (Nat.le_refl _) (.cells #[.slice (some ⟨b, off, none⟩) n cap] 47 (0, 0))
  have g0 := L8.blk_new w (.cells #[.slice (some ⟨b, off, none⟩) n cap] 47 (0, 0))
  have ez : (w.alloc (.cells #[.slice (some ⟨b, off, none⟩) n cap] 47 (0, 0))).heap.size = w.heap.size + 1 := by simp
  obtain ⟨W0, hW0⟩ : ∃ W0, W0 = w.alloc (.cells #[.slice (some ⟨b, off, none⟩) n cap] 47 (0, 0)) := ⟨_, rfl⟩
  rw [← hW0] at BX g0 ez
  have HW := hide hW0
  have B0 := hide BX
  have G0 := hide g0
  have EZ := hide ez
  have HS := hide hs
  have HN := hide hn
  have HC := hide hc
  have hfl : ∀ x y w, (Instr.field 42 (.agg #[.int .i64 x, .int .i64 y]) 0).run Try.prog w = .ok (.int .i64 x) w := fun _ _ _ => rfl
  clear BX g0 ez hW0 hs hn hc
  go_enter Try.func36, Try.ntmps36
  go_upto_region 2 with fail
  rw [← HW.out]
  go_loopw [5] (fun ov wr => ∃ (P : List Nat) (p o' : Nat), p ≤ n ∧ Hid (Bs l s P p) ∧ (p < n → o' = off + p * 2) ∧ Hid (wr.heap[w.heap.size]? = some (.cells #[.slice (some ⟨b, o', none⟩) (n - p) (cap - p)] 47 (0, 0))) ∧ Hid (wr.ownsRow W0.heap.size 57 2 ov P.length (flatP b off l s cap P)) ∧ Hid (Below w.heap.size w wr) ∧ W0.heap.size ≤ wr.heap.size) (fun _ wr => runLen (wr.cell? ⟨w.heap.size, 0, none⟩))
  case atStart => exact ⟨[], 0, off, Nat.zero_le _, Bs.nil, fun _ => by simp, by simpa using G0, World.ownsRow_nil _ _ _ _, B0, Nat.le_refl _⟩
  case round =>
    obtain ⟨P, p, o', hp, HB, ho', HX, HO, HBW, hsz0⟩ := hrel
    obtain ⟨k0, kf⟩ := blk1W HX.out
    have k0m : Hid (runLen (wr.cell? ⟨w.heap.size, 0, none⟩) = n - p) := hide (by rw [k0]; rfl)
    obtain ⟨oa, oc, rfl⟩ := own_shapeW HO.out
    obtain ⟨m, hm⟩ : ∃ m, m = P.length := ⟨_, rfl⟩
    rw [← hm] at HO
    rw [← hm]
    have HM := hide hm
    have hbs := (HB.out.win HC.out h1.1)
    have hm40 : m ≤ 40 := by have := hbs.2.1; omega
    clear hbs hm
    by_cases hlt : p < n
    · have hoe := ho' hlt
      subst hoe
      have hgt : (0 : Int) < ((n - p : Nat) : Int) := by omega
      have hgtN : 0 < n - p := by omega
      have hpl : p < l.length := by rw [HN.out]; exact hlt
      have nx := nxt_spec HC.out h1.1 hpl
      rw [HN.out] at nx
      have hat := HC.out.at_ hpl
      have hfb := fr_bd (s := s) (t := at_ l p) h1.1
      have hf0 := fr_nonneg (s := s) (t := at_ l p) h1.1 hat.1
      have HSD := hide (fun (wx : World) (hb : Below w.heap.size w wx) => sl2_dropW (HS.out.below hb) p)
      have hdl : (l.drop p).length = n - p := by rw [List.length_drop, HN.out]
      have CF := hide (fun wx hs => first_any (some ⟨b, off + p * 2, none⟩) (l.drop p) (n - p) (cap - p) wx hdl hs (by omega) hgtN)
      have hd0 : at_ (l.drop p) 0 = at_ l p := by unfold at_; rw [getD_drop16, Nat.add_zero]
      have hd1 : vl (l.drop p) 0 = vl l p := by unfold vl; rw [getD_drop16, Nat.add_zero]
      rw [hd0, hd1] at CF
      obtain ⟨q, hq⟩ : ∃ q, q = nxt l s p := ⟨_, rfl⟩
      have hcn : q - p = cnt (l.drop p) (fr s (at_ l p) + s) (n - p) := by
        have c := cnt_spec HC.out (fr s (at_ l p) + s) l.length (Nat.le_refl _)
        have := cnt_of (HC.out.drop p) (t := fr s (at_ l p) + s) (c := q - p) (by rw [hdl]; rw [hq]; omega) (fun j hj => by
          show ((l.drop p).getD j (0, 0)).1 < _
          rw [getD_drop16]
          exact c.1 (p + j) (by have : nxt l s p = cnt l (fr s (at_ l p) + s) l.length := rfl; omega)) (fun hj => by
          rw [hdl] at hj
          show _ ≤ ((l.drop p).getD (q - p) (0, 0)).1
          rw [getD_drop16, show p + (q - p) = q by rw [hq]; omega]
          exact c.2 q (by rw [hq]; exact Nat.le_refl _) (by rw [HN.out]; omega))
        rw [hdl] at this
        exact this.symm
      have CC := hide (fun wx hs => countBefore_any (some ⟨b, off + p * 2, none⟩) (l.drop p) (n - p) (cap - p) (fr s (at_ l p) + s) wx hdl hs (by omega) (HC.out.drop p) (q - p) hcn)
      have HB2 := hide (show Bs l s (P ++ [p]) q by rw [hq]; exact Bs.snoc HB.out hpl)
      have HFL := hide (show flatP b off l s cap (P ++ [p]) = flatP b off l s cap P ++ [.slice (some ⟨b, off + p * 2, none⟩) (q - p) (cap - p), .int .i64 (fr s (at_ l p))] by rw [flatP_append, hq]; rfl)
      rw [← hq] at nx
      have hqn : p < q ∧ q ≤ n := ⟨nx.1, nx.2.1⟩
      have hfe : fr s (at_ l p) = at_ l p / s * s := rfl
      obtain ⟨x, hx⟩ : ∃ x, x = at_ l p := ⟨_, rfl⟩
      obtain ⟨y, hy⟩ : ∃ y, y = vl l p := ⟨_, rfl⟩
      obtain ⟨f, hf⟩ : ∃ f, f = fr s (at_ l p) := ⟨_, rfl⟩
      rw [← hf] at CC HFL hfe hfb hf0
      rw [← hx] at CF hfe hat hfb
      rw [← hy] at CF
      obtain ⟨d, hd⟩ : ∃ d, d = x / s := ⟨_, rfl⟩
      have hd2 := Int.ediv_nonneg hat.1 (show 0 ≤ s by omega)
      have hd3 := Int.ediv_le_self s hat.1
      rw [← hd] at hfe hd2 hd3
      have hde : x / s = d := hd.symm
      have hwd : IntKind.i64.wrap (Int.tdiv x s) = d := by rw [Int.tdiv_eq_ediv_of_nonneg hat.1, ← hd]; exact wrap16 (by omega) (by omega)
      have hwf : IntKind.i64.wrap (d * s) = f := by rw [← hfe]; exact wrap16 (by omega) (by omega)
      have hwfs : IntKind.i64.wrap (f + s) = f + s := wrap16 (by omega) (by omega)
      have hs0 : ¬ s = 0 := by omega
      obtain ⟨c, hcq⟩ : ∃ c, c = q - p := ⟨_, rfl⟩
      rw [← hcq] at CC HFL
      have hc0 : (0 : Int) ≤ (c : Int) := by omega
      have hcc : (c : Int) ≤ ((cap - p : Nat) : Int) := by omega
      have hcc2 : (c : Int) ≤ ((n - p : Nat) : Int) := by omega
      have hlo := HBW.out.size
      have HCQ := hide hcq
      clear hd0 hd1 hcn hdl hx hy hf hfe hd hpl nx hat ho' hq hcq
      go_wp2_with fail
      refine (CF.out _ (HSD.out _ HBW.out)).mono ?_
      rintro e w2 ⟨rfl, hb2⟩
      have X2 := hide (blk_kept16 HX.out hb2)
      have O2 := hide (own_belowW HO.out hb2)
      have B2 := hide (HBW.out.trans (hb2.mono hlo))
      have hs2 : W0.heap.size ≤ w2.heap.size := Nat.le_trans hsz0 hb2.size
      clear hb2 k0 kf HX HO HBW
      obtain ⟨k0, kf⟩ := blk1W X2.out
      go_wp2_with fail
      refine (CC.out _ (HSD.out _ B2.out)).mono ?_
      rintro e w3 ⟨rfl, hb3⟩
      have X3 := hide (blk_kept16 X2.out hb3)
      have O3 := hide (own_belowW O2.out hb3)
      have B3 := hide (B2.out.trans (hb3.mono B2.out.size))
      have hs3 : W0.heap.size ≤ w3.heap.size := Nat.le_trans hs2 hb3.size
      clear hb3 k0 kf X2 O2 B2 hs2
      obtain ⟨k0, kf⟩ := blk1W X3.out
      go_wp2_with (first
        | (at_builtin; refine wpList_append_own _ rfl _ _ 54 rfl W0.heap.size 57 i1 (.agg #[.slice none 0 0, .int .i64 0]) 2 32 Try.underlying54 hi1 hy0 hy1 hy2 rfl (by decide) _ _ _ rfl (own_belowW O3.out ((Below.refl _ _).alloc (Nat.le_refl _) _)) ⟨w3.heap.size, 0, none⟩ 1 1 [.slice (some ⟨b, off + p * 2, none⟩) c (cap - p), .int .i64 f] rfl rfl (cell_twoW _ _ _ _) (by intro u hu; simp at hu; rcases hu with rfl | rfl <;> rfl) (by unfold maxLen; omega) (by omega) (by simp; omega) ?_)
        | go_in)
      intro v6 w6 hown6 hgrow6 _
      have hcq := HCQ.out
      have eA : Below w3.heap.size w3 (w3.alloc (.cells #[.slice (some ⟨b, off + p * 2, none⟩) c (cap - p), .int .i64 f] 57 (0, 0))) := (Below.refl _ _).alloc (Nat.le_refl _) _
      have hlow := fun g hg => (O3.out.lt g hg).1
      have X6 := hide (blk_grown16 (blk_kept16 X3.out eA) hgrow6 (fun e => by have := hlow _ e; have := EZ.out; omega))
      have O6 := hide (show w6.ownsRow W0.heap.size 57 2 v6 (m + 1) (flatP b off l s cap (P ++ [p])) by rw [HFL.out]; exact hown6)
      have B6 := hide ((B3.out.trans (eA.mono B3.out.size)).grown hgrow6 (by have := B3.out.size; simp; omega) (fun g hg => by have := hlow g hg; have := EZ.out; omega))
      have hs6 : W0.heap.size ≤ w6.heap.size := Nat.le_trans hs3 (Nat.le_trans eA.size hgrow6.size)
      obtain ⟨va, vc, rfl⟩ := own_shapeW hown6
      clear hown6 hgrow6 eA hlow k0 kf X3 O3 B3 hs3
      obtain ⟨k0, kf⟩ := blk1W X6.out
      obtain ⟨o2, ho2, hoo⟩ : ∃ o2 : Nat, (if cap - p = c then (some ⟨b, off + p * 2, none⟩ : Option Addr) else some ⟨b, off + p * 2 + c * 2, none⟩) = some ⟨b, o2, none⟩ ∧ (q < n → o2 = off + q * 2) := by
        by_cases e : cap - p = c
        · exact ⟨off + p * 2, by rw [if_pos e], fun h => by omega⟩
        · exact ⟨off + p * 2 + c * 2, by rw [if_neg e], fun h => by omega⟩
      have X9 := hide (set1W (a' := .slice (some ⟨b, o2, none⟩) (n - q) (cap - q)) X6.out)
      have O9 := hide (own_setW O6.out ⟨w.heap.size, 0, none⟩ (.slice (some ⟨b, o2, none⟩) (n - q) (cap - q)) (by have := EZ.out; show w.heap.size < _; omega))
      have B9 := hide (B6.out.setCell (p := ⟨w.heap.size, 0, none⟩) (Nat.le_refl _) (.slice (some ⟨b, o2, none⟩) (n - q) (cap - q)))
      have hs9 : W0.heap.size ≤ (w6.setCell ⟨w.heap.size, 0, none⟩ (.slice (some ⟨b, o2, none⟩) (n - q) (cap - q))).heap.size := by rw [World.size_setCell]; exact hs6
      have hnq : n - p - c = n - q := by omega
      have hcq2 : cap - p - c = cap - q := by omega
      have HME := hide (show runLen ((w6.setCell ⟨w.heap.size, 0, none⟩ (.slice (some ⟨b, o2, none⟩) (n - q) (cap - q))).cell? ⟨w.heap.size, 0, none⟩) = n - q by rw [(blk1W X9.out).1]; rfl)
      have HML : Hid ((P ++ [p]).length = m + 1) := hide (by rw [List.length_append, HM.out]; rfl)
      have hq2 := hqn.2
      clear hcq
      go_wp2
      go_roundw
      case rel => exact ⟨P ++ [p], q, o2, hq2, HB2, hoo, X9, by rw [HML.out]; exact O9, B9, hs9⟩
      case measure => rw [HME.out, k0m.out]; omega
    · have hgt : ¬ (0 : Int) < ((n - p : Nat) : Int) := by omega
      obtain rfl : p = n := by omega
      have O2 := hide (own_baseS16 HO.out (show w.heap.size ≤ W0.heap.size by have := EZ.out; omega))
      go_wp2
      go_ret
      exact ⟨_, rfl, P, HB.out, by rw [← HM.out]; exact O2.out, HBW.out⟩
end Go.Proofs.Yticgejaaoamhmap.L16
