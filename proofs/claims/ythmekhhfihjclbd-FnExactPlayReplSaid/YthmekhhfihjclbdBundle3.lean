/-
  A list of ints in memory with its slice's room; a new list that a call hands back.
  Contracts: impl.isBelow, impl.risingNodes, impl.majority, impl.isMajority: rising lists of nodes, and how many are a majority.
  What is good of a world of logs, and what is certain in it. Nothing of the program's text is proved here.
  Logs of one history: where two have one Epoch at a place they are alike up to there, and an Epoch begins at one place. What is fetched is the front of the leader's log. Nothing of the program's text is proved here.
  Worlds of logs as plain lists, the steps on them, and what every step keeps: good logs of one history, and what is certain at the front of all that are in step. Nothing of the program's text is proved here.
  Lists of bools in memory, and the laws' own helpers over them: laws.toBoolS, laws.eqBoolS, laws.szBoolS; laws.szIntS.
  Contract: impl.GoodEntries tells whether entries are good.
  Contract: impl.goodReplLogs.
-/
import Derived.Test.YthmekhhfihjclbdBundle2
import Derived.Test.YthmekhhfihjclbdBundle1
import Derived.Deep.QuietTactic
import Derived.BigQuiet
namespace Go.Proofs.Ythmekhhfihjclbd.L4
open Go.RowKit L1
set_option linter.unusedVariables false

/-- A list of ints in memory, and the room that its slice has. -/
structure SlC (w : World) (a : Option Addr) (n cap : Nat) (xs : List Int) : Prop where
  sl : Sl w a xs
  le : n ≤ cap
  max : cap ≤ maxLen
  nil : a = none → cap = 0
theorem SlC.below {w w' : World} {a : Option Addr} {n cap : Nat} {xs : List Int} (h : SlC w a n cap xs) (hb : Below w.heap.size w w') : SlC w' a n cap xs := ⟨h.sl.below hb, h.le, h.max, h.nil⟩
theorem own_slC {w : World} {base n cap : Nat} {a : Option Addr} {xs : List Int} (h : w.ownsRow base 3 1 (.slice a n cap) n (xs.map (Value.int .i64))) : SlC w a n cap xs := by
  refine ⟨own_slI h, ?_, ?_, ?_⟩ <;> rcases h.2 with ⟨hv, h0⟩ | ⟨g, cap', cur, hv, _, _, hc, hm, _⟩
  · omega
  · cases hv; exact hc
  · cases hv; unfold maxLen; omega
  · cases hv; exact hm
  · cases hv; exact fun _ => rfl
  · cases hv; exact fun e => by cases e
theorem own_formC {w : World} {base n : Nat} {v : Value} {xs : List Int} (h : w.ownsRow base 3 1 v n (xs.map (Value.int .i64))) : ∃ a cap, v = .slice a n cap ∧ SlC w a n cap xs ∧ xs.length = n := by
  obtain ⟨a, cap, rfl, _, hl⟩ := own_form h
  exact ⟨a, cap, rfl, own_slC h, hl⟩
theorem slC_base {w w' : World} {a : Option Addr} {n cap : Nat} {xs : List Int} {base : Nat} (h : SlC w a n cap xs) (hb : Below base w w') (hlt : ∀ x, a = some x → x.block < base) : SlC w' a n cap xs := ⟨sl_baseI h.sl hb hlt, h.le, h.max, h.nil⟩
/-- A new list of ints that a call hands back. -/
def RetN (w : World) (xs : List Int) (e : Ending) (w' : World) : Prop := ∃ v, e = .returned v ∧ w'.ownsRow w.heap.size 3 1 v xs.length (xs.map (Value.int .i64)) ∧ Below w.heap.size w w'
end Go.Proofs.Ythmekhhfihjclbd.L4

namespace Go.Proofs.Ythmekhhfihjclbd.L8
open Go.RowKit L1 L4
set_option linter.unusedVariables false

/-- Rising nodes of so many. -/
def RN (n : Int) (l : List Int) : Prop := ∀ j, j < l.length → (0 ≤ l.getD j 0 ∧ l.getD j 0 < n) ∧ (0 < j → l.getD (j - 1) 0 < l.getD j 0)
theorem RN.rise {n : Int} {l : List Int} (h : RN n l) : Rise l := rise_of_step fun j hj h0 => (h j hj).2 h0

set_option maxRecDepth 100000 in
set_option maxHeartbeats 400000 in
theorem isBelow_any (x hi : Int) (w : World) (b : Bool) (hb : b = true ↔ 0 ≤ x ∧ x < hi) :
    Calls Try.prog 78 #[.int .i64 x, .int .i64 hi] w fun e w' => e = .returned (.bool b) ∧ w = w' := by
  by_cases h1 : 0 ≤ x
  · by_cases h2 : x < hi
    · obtain rfl : b = true := hb.2 ⟨h1, h2⟩
      clear hb
      go_enter Try.func78, Try.ntmps78
      go_wp2
      go_ret
      exact ⟨rfl, rfl⟩
    · obtain rfl : b = false := bool_noT hb (fun h => h2 h.2)
      clear hb
      go_enter Try.func78, Try.ntmps78
      go_wp2
      go_ret
      exact ⟨rfl, rfl⟩
  · obtain rfl : b = false := bool_noT hb (fun h => h1 h.1)
    clear hb
    go_enter Try.func78, Try.ntmps78
    go_wp2
    go_ret
    exact ⟨rfl, rfl⟩

set_option maxRecDepth 100000 in
set_option maxHeartbeats 2000000 in
theorem risingNodes_any (a : Option Addr) (l : List Int) (n cap : Nat) (N : Int) (w : World) (hn : l.length = n) (hs : Sl w a l) (hn2 : n ≤ 1048576) (bb : Bool) (hbb : bb = true ↔ RN N l) :
    Calls Try.prog 61 #[.slice a n cap, .int .i64 N] w fun e w' => e = .returned (.bool bb) ∧ w = w' := by
  have HBB := hide hbb
  have HS := hide hs
  have HN := hide hn
  clear hbb hs hn
  go_enter Try.func61, Try.ntmps61
  go_wp2
  go_loop [9] (fun i => ∃ k : Nat, k ≤ n ∧ i = .int .i64 k ∧ Hid (∀ j, j < k → (0 ≤ l.getD j 0 ∧ l.getD j 0 < N) ∧ (0 < j → l.getD (j - 1) 0 < l.getD j 0))) (fun i => n - (intOf i).toNat)
  case atStart => exact ⟨0, Nat.zero_le _, rfl, fun j hj => absurd hj (Nat.not_lt_zero _)⟩
  case round =>
    obtain ⟨k, hk, rfl, HJ⟩ := hrel
    by_cases hlt : k < n
    · obtain ⟨b, off, rfl, hc⟩ := HS.out k (by rw [HN.out]; exact hlt)
      have hltI : (k : Int) < (n : Int) := by omega
      obtain ⟨x, hx⟩ : ∃ x, x = l.getD k 0 := ⟨_, rfl⟩
      rw [← hx] at hc
      have HX := hide hx.symm
      clear hx
      have hprev : 0 < k → ∃ p, Hid (l.getD (k - 1) 0 = p) ∧ w.cell? ⟨b, off + (k - 1), none⟩ = some (.int .i64 p) := fun h0 => by
        obtain ⟨b', off', ha, hp⟩ := HS.out (k - 1) (by rw [HN.out]; omega)
        simp only [Option.some.injEq, Addr.mk.injEq, and_true] at ha
        obtain ⟨rfl, rfl⟩ := ha
        exact ⟨_, rfl, hp⟩
      by_cases h1 : 0 ≤ x ∧ x < N
      · have C := hide (fun w => isBelow_any x N w true (by simp [h1]))
        have H1 := hide h1
        clear h1
        cases k with
        | zero =>
          clear hprev
          simp only [Nat.add_zero] at hc
          go_wp2_with fail
          refine (C.out _).mono ?_
          rintro e w1 ⟨rfl, rfl⟩
          go_wp2
          go_round
          case rel =>
            refine ⟨0 + 1, by omega, by go_num, ?_⟩
            intro j hj
            obtain rfl : j = 0 := by omega
            rw [HX.out]
            exact ⟨H1.out, fun h => absurd h (Nat.lt_irrefl _)⟩
          case measure => simp [intOf]; omega
        | succ k =>
          obtain ⟨p, HP, hp⟩ := hprev (by omega)
          clear hprev
          simp only [Nat.add_sub_cancel] at HP hp
          have hk1 : ((k + 1 : Nat) : Int) - 1 = (k : Int) := by omega
          have hk2 : (k : Int) < (n : Int) := by omega
          have hk3 : (0 : Int) < ((k + 1 : Nat) : Int) := by omega
          by_cases h3 : x ≤ p
          · have hno : ¬ RN N l := fun h => by
              have := (h (k + 1) (by rw [HN.out]; exact hlt)).2 (by omega)
              simp only [Nat.add_sub_cancel] at this
              rw [HX.out, HP.out] at this
              omega
            have HNO := hide hno
            clear hno
            go_wp2_with fail
            refine (C.out _).mono ?_
            rintro e w1 ⟨rfl, rfl⟩
            go_wp2
            go_ret
            exact ⟨by rw [bool_noT HBB.out HNO.out]; rfl, rfl⟩
          · go_wp2_with fail
            refine (C.out _).mono ?_
            rintro e w1 ⟨rfl, rfl⟩
            go_wp2
            go_round
            case rel =>
              refine ⟨k + 1 + 1, by omega, by go_num, ?_⟩
              intro j hj
              by_cases e : j = k + 1
              · subst e
                simp only [Nat.add_sub_cancel]
                rw [HX.out, HP.out]
                exact ⟨H1.out, fun _ => by omega⟩
              · exact HJ.out j (by omega)
            case measure => simp [intOf]; omega
      · have C := hide (fun w => isBelow_any x N w false (by simp; omega))
        have hno : ¬ RN N l := fun h => h1 (by have := (h k (by rw [HN.out]; exact hlt)).1; rw [HX.out] at this; exact this)
        have HNO := hide hno
        clear hno h1 hprev
        go_wp2_with fail
        refine (C.out _).mono ?_
        rintro e w1 ⟨rfl, rfl⟩
        go_wp2
        go_ret
        exact ⟨by rw [bool_noT HBB.out HNO.out]; rfl, rfl⟩
    · have hltI : ¬ (k : Int) < (n : Int) := by omega
      have hg : RN N l := fun j hj => HJ.out j (by rw [HN.out] at hj; omega)
      have HG := hide hg
      clear hg
      go_wp2
      go_ret
      exact ⟨by rw [HBB.out.2 HG.out]; rfl, rfl⟩
end Go.Proofs.Ythmekhhfihjclbd.L8

namespace Go.Proofs.Ythmekhhfihjclbd.L9
open Go.RowKit L1 L7
set_option linter.unusedVariables false

/-- The log of a node. -/
abbrev gg (G : List (List En)) (k : Int) : List En := G.getD k.toNat []
def GoodLs (G : List (List En)) : Prop := (1 ≤ G.length ∧ G.length ≤ 5) ∧ ∀ i, i < G.length → GoodE (G.getD i [])
structure GoodR (G : List (List En)) (nd : Nat) (ld ep : Int) (sy : List Int) (ce : List En) : Prop where
  logs : GoodLs G
  down : nd = G.length
  e0 : 1 ≤ ep
  e1 : ep ≤ 1000
  rise : L8.RN (G.length : Int) sy
  lead : ld ∈ sy
  cert : ∀ j, j < sy.length → prt (gg G (sy.getD j 0)) ce = ce.length
theorem GoodR.node {G : List (List En)} {nd : Nat} {ld ep : Int} {sy : List Int} {ce : List En} (h : GoodR G nd ld ep sy ce) : 0 ≤ ld ∧ ld < (G.length : Int) := by
  obtain ⟨j, hj, e⟩ := List.getElem_of_mem h.lead
  have h1 := (h.rise j hj).1
  have e2 : sy.getD j 0 = ld := by simp [List.getD, List.getElem?_eq_getElem hj, e]
  rw [e2] at h1
  exact h1
theorem rn_mem {n : Int} {sy : List Int} {ld : Int} (h : L8.RN n sy) (hm : ld ∈ sy) : 0 ≤ ld ∧ ld < n := by
  obtain ⟨j, hj, e⟩ := List.getElem_of_mem hm
  have h1 := (h j hj).1
  have e2 : sy.getD j 0 = ld := by simp [List.getD, List.getElem?_eq_getElem hj, e]
  rw [e2] at h1
  exact h1
theorem prt_le : ∀ a b : List En, prt a b ≤ a.length ∧ prt a b ≤ b.length
  | [], b => by simp [prt]
  | x :: a, [] => by simp [prt]
  | x :: a, y :: b => by
    have := prt_le a b
    unfold prt
    split <;> simp <;> omega
/-- The least place at which a log of the first nodes in step parts from the leader's. -/
def cerK (G : List (List En)) (lead : List En) (sy : List Int) : Nat → Nat
  | 0 => lead.length
  | k + 1 => min (cerK G lead sy k) (prt (gg G (sy.getD k 0)) lead)
theorem cerK_le (G : List (List En)) (lead : List En) (sy : List Int) : ∀ k, cerK G lead sy k ≤ lead.length
  | 0 => Nat.le_refl _
  | k + 1 => by
    have := cerK_le G lead sy k
    show min _ _ ≤ _
    omega
def cerL (G : List (List En)) (ld : Int) (sy : List Int) : Nat := cerK G (gg G ld) sy sy.length
theorem prt_whole : ∀ a b : List En, (a.length = b.length ∧ prt a b = b.length) ↔ a = b
  | [], [] => by simp [prt]
  | [], y :: b => by simp
  | x :: a, [] => by simp
  | x :: a, y :: b => by
    have ih := prt_whole a b
    unfold prt
    by_cases e : x = y
    · subst e
      simp only [List.length_cons, if_pos, List.cons.injEq, true_and]
      rw [← ih]
      omega
    · rw [if_neg e]
      simp [e]
theorem blk6 {w : World} {g : Nat} {a b c d e f : Value} {t : TypeId} (h : w.heap[g]? = some (.cells #[a, b, c, d, e, f] t (0, 0))) :
    w.cell? ⟨g, 0, none⟩ = some a ∧ w.cell? ⟨g, 1, none⟩ = some b ∧ w.cell? ⟨g, 2, none⟩ = some c ∧ w.cell? ⟨g, 3, none⟩ = some d ∧ w.cell? ⟨g, 4, none⟩ = some e ∧ w.cell? ⟨g, 5, none⟩ = some f := by
  simp [World.cell?, h]
theorem blk_new9 (w : World) (o : Obj) : (w.alloc o).heap[w.heap.size]? = some o := by
  show (w.heap.push o)[w.heap.size]? = some o
  exact Array.getElem?_push_size
theorem SlG.at' {w : World} {a : Option Addr} {G : List (List En)} (h : SlG w a G) (k : Int) (h0 : 0 ≤ k) (h1 : k < (G.length : Int)) : ∃ b off, a = some ⟨b, off, none⟩ ∧ ∃ (i : Nat) (ai : Option Addr) (ci : Nat), k = (i : Int) ∧ i < G.length ∧ w.cell? ⟨b, off + i, none⟩ = some (.slice ai (gg G k).length ci) ∧ SlE w ai (gg G k) := by
  obtain ⟨b, off, ha, ai, ci, hc, hs⟩ := h k.toNat (by omega)
  exact ⟨b, off, ha, k.toNat, ai, ci, by omega, by omega, hc, hs⟩
end Go.Proofs.Ythmekhhfihjclbd.L9

namespace Go.Proofs.Ythmekhhfihjclbd.L9
open Go.RowKit L1 L7
set_option linter.unusedVariables false

def HistP (l m : List En) : Prop := ∀ i, i < l.length → i < m.length → (l.getD i eE).1 = (m.getD i eE).1 → l.take (i + 1) = m.take (i + 1)
def StP (l : List En) (i : Nat) : Prop := i = 0 ∨ (l.getD (i - 1) eE).1 ≠ (l.getD i eE).1
def BegL (l m : List En) : Prop := ∀ i j, i < l.length → j < m.length → StP l i → StP m j → (l.getD i eE).1 = (m.getD j eE).1 → i = j
structure OneH (l m : List En) : Prop where
  h : HistP l m
  b : BegL l m
theorem OneH.symm {l m : List En} (h : OneH l m) : OneH m l := ⟨fun i h1 h2 e => (h.h i h2 h1 e.symm).symm, fun i j h1 h2 s t e => (h.b j i h2 h1 t s e.symm).symm⟩

theorem getD_takeE (l : List En) (p i : Nat) (h : i < p) : (l.take p).getD i eE = l.getD i eE := by
  simp [List.getD, h]
theorem take_takeE (l : List En) {i p : Nat} (h : i ≤ p) : (l.take p).take i = l.take i := by
  rw [List.take_take, Nat.min_eq_left h]
theorem stP_take {l : List En} {p i : Nat} (h : i < p) : StP (l.take p) i ↔ StP l i := by
  unfold StP
  rw [getD_takeE l p i h]
  by_cases h0 : i = 0
  · simp [h0]
  · rw [getD_takeE l p (i - 1) (by omega)]
theorem OneH.take {l m : List En} (h : OneH l m) (p : Nat) : OneH (l.take p) m := by
  refine ⟨fun i h1 h2 e => ?_, fun i j h1 h2 s t e => ?_⟩
  · rw [List.length_take] at h1
    rw [getD_takeE l p i (by omega)] at e
    rw [take_takeE l (by omega)]
    exact h.h i (by omega) h2 e
  · rw [List.length_take] at h1
    rw [getD_takeE l p i (by omega)] at e
    exact h.b i j (by omega) h2 ((stP_take (by omega)).1 s) t e
theorem oneH_self {l : List En} (hM : Mono l) : OneH l l := by
  refine ⟨fun _ _ _ _ => rfl, fun i j h1 h2 s t e => ?_⟩
  rcases Nat.lt_trichotomy i j with hl | he | hl
  · rcases t with rfl | t
    · omega
    · exact absurd (Int.le_antisymm (hM (j - 1) j (by omega) h2) (e ▸ hM i (j - 1) (by omega) (by omega))) t
  · exact he
  · rcases s with rfl | s
    · omega
    · exact absurd (Int.le_antisymm (hM (i - 1) i (by omega) h1) (e ▸ hM j (i - 1) (by omega) (by omega))) s

/-- What the starts are: places at which an Epoch begins; and each Epoch has one. -/
theorem sts_is (l : List En) : ∀ K, ∀ i, i < (stsK l K).length → ∃ s : Nat, (stsK l K).getD i (0, 0) = ((l.getD s eE).1, (s : Int)) ∧ s < K ∧ StP l s
  | 0, i, hi => by simp [stsK] at hi
  | K + 1, i, hi => by
    by_cases h : K = 0 ∨ (l.getD (K - 1) eE).1 ≠ (l.getD K eE).1
    · rw [stsK_yes l K h] at hi ⊢
      rw [List.length_append] at hi
      by_cases hk : i < (stsK l K).length
      · obtain ⟨s, h1, h2, h3⟩ := sts_is l K i hk
        refine ⟨s, ?_, by omega, h3⟩
        rw [← h1]
        simp [List.getD, List.getElem?_append_left hk]
      · simp at hi
        have : i = (stsK l K).length := by omega
        subst this
        exact ⟨K, by simp [List.getD], by omega, h⟩
    · rw [stsK_no l K h] at hi ⊢
      obtain ⟨s, h1, h2, h3⟩ := sts_is l K i hi
      exact ⟨s, h1, by omega, h3⟩
theorem sts_has (l : List En) : ∀ K j, j < K → ∃ i, i < (stsK l K).length ∧ ((stsK l K).getD i (0, 0)).1 = (l.getD j eE).1
  | 0, j, h => by omega
  | K + 1, j, hj => by
    by_cases h : K = 0 ∨ (l.getD (K - 1) eE).1 ≠ (l.getD K eE).1
    · rw [stsK_yes l K h]
      by_cases hk : j < K
      · obtain ⟨i, h1, h2⟩ := sts_has l K j hk
        refine ⟨i, by rw [List.length_append]; omega, ?_⟩
        rw [← h2]
        simp [List.getD, List.getElem?_append_left h1]
      · have : j = K := by omega
        subst this
        exact ⟨(stsK l j).length, by simp, by simp [List.getD]⟩
    · rw [stsK_no l K h]
      by_cases hk : j < K
      · exact sts_has l K j hk
      · have : j = K := by omega
        subst this
        have h0 : j ≠ 0 := fun e => h (.inl e)
        have he : (l.getD (j - 1) eE).1 = (l.getD j eE).1 := Classical.byContradiction fun e => h (.inr e)
        obtain ⟨i, h1, h2⟩ := sts_has l j (j - 1) (by omega)
        exact ⟨i, h1, h2.trans he⟩
theorem prt_ge : ∀ (l m : List En) (n : Nat), n ≤ l.length → n ≤ m.length → l.take n = m.take n → n ≤ prt l m
  | l, m, 0, _, _, _ => Nat.zero_le _
  | [], m, n + 1, h, _, _ => by simp at h
  | x :: l, [], n + 1, _, h, _ => by simp at h
  | x :: l, y :: m, n + 1, h1, h2, h => by
    simp only [List.take_succ_cons, List.cons.injEq] at h
    have := prt_ge l m n (by simpa using h1) (by simpa using h2) h.2
    unfold prt
    rw [if_pos h.1]
    omega
theorem mat_of {l m : List En} (h : OneH l m) : MatP l m := by
  refine ⟨fun i hi j hj e => ?_, fun i hp hl hm e => ?_⟩
  · obtain ⟨s, h1, h2, h3⟩ := sts_is l l.length i hi
    obtain ⟨t, g1, g2, g3⟩ := sts_is m m.length j hj
    have h1' : (sts l).getD i (0, 0) = ((l.getD s eE).1, (s : Int)) := h1
    have g1' : (sts m).getD j (0, 0) = ((m.getD t eE).1, (t : Int)) := g1
    rw [h1', g1'] at e ⊢
    have := h.b s t h2 g2 h3 g3 e
    simp [this]
  · have := prt_ge l m (i + 1) (by omega) (by omega) (h.h i hl hm e)
    omega

/-- What both have at their fronts is kept. -/
theorem fnd_keeps {l m : List En} (hl : Mono l) (hm : Mono m) (c : Nat) (hc : 0 < c) (h1 : c ≤ l.length) (h2 : c ≤ m.length) (he : (l.getD (c - 1) eE).1 = (m.getD (c - 1) eE).1) :
    ∀ i q, i ≤ (sts l).length → (∃ j, j < i ∧ ((sts l).getD j (0, 0)).1 = (l.getD (c - 1) eE).1) → (c : Int) ≤ (fnd l (sts l) (sts m) m.length i q).1
  | 0, q, _, ⟨j, hj, _⟩ => by omega
  | i + 1, q, hi, ⟨j, hj, hje⟩ => by
    have hge : (l.getD (c - 1) eE).1 ≤ ((sts l).getD i (0, 0)).1 := by
      rw [← hje]
      rcases Nat.lt_or_ge j i with h | h
      · exact Int.le_of_lt (sts_rise hl j i h (by omega))
      · obtain rfl : j = i := by omega
        exact Int.le_refl _
    cases hx : idx (sts m) ((sts l).getD i (0, 0)).1 with
    | some k =>
      rw [fnd_some hx]
      obtain ⟨hk, hke⟩ := idx_lt _ _ _ hx
      have e1 := end_ge hl ((sts l).getD i (0, 0)).1 (c - 1) (by omega) hge
      have e2 := end_ge hm ((sts l).getD i (0, 0)).1 (c - 1) (by omega) (by rw [← he]; exact hge)
      have e3 := end_nxt hm k hk
      rw [hke] at e3
      show (c : Int) ≤ min _ _
      rw [← e3]
      omega
    | none =>
      rw [fnd_none hx]
      have hne : j ≠ i := fun e => by
        subst e
        obtain ⟨t, ht, hte⟩ := sts_has m m.length (c - 1) (by omega)
        have ht' : t < (sts m).length := ht
        have hte' : ((sts m).getD t (0, 0)).1 = (m.getD (c - 1) eE).1 := hte
        have := idx_some (sts m) ((sts l).getD j (0, 0)).1 t ht' (by rw [hte', hje, he]) (fun s hs hse => by
          have := sts_rise hm s t hs ht'
          rw [hse, hje, he, hte'] at this
          exact absurd this (Int.lt_irrefl _))
        rw [hx] at this
        cases this
      exact fnd_keeps hl hm c hc h1 h2 he i _ (by omega) ⟨j, by omega, hje⟩
theorem find_keeps {l m : List En} (hl : Mono l) (hm : Mono m) (c : Nat) (h : c ≤ prt l m) : (c : Int) ≤ (find l (sts m) m.length).1 := by
  have hp := L7.prt_le l m
  by_cases hc : 0 < c
  · obtain ⟨j, hj, hje⟩ := sts_has l l.length (c - 1) (by omega)
    exact fnd_keeps hl hm c hc (by omega) (by omega) (by rw [prt_same l m (c - 1) (by omega)]) _ 0 (Nat.le_refl _) ⟨j, hj, hje⟩
  · have := (find_bd (l := l) hm).1
    omega
/-- What a node has behind a fetch. -/
def ftc (l m : List En) : List En := l.take (find l (sts m) m.length).1.toNat ++ (if (find l (sts m) m.length).1 < (m.length : Int) then [m.getD (find l (sts m) m.length).1.toNat eE] else [])
theorem take_snocE (l : List En) (k : Nat) (hk : k < l.length) : l.take (k + 1) = l.take k ++ [l.getD k eE] := by
  rw [List.take_succ_eq_append_getElem hk]
  simp [List.getD, List.getElem?_eq_getElem hk]
theorem ftc_is {l m : List En} (hl : Mono l) (hm : Mono m) (h : OneH l m) : ∃ p, ftc l m = m.take p ∧ ∀ c, c ≤ prt l m → c ≤ p := by
  obtain ⟨b0, b1, b2⟩ := find_bd (l := l) hm
  have hle := fnd_match hl hm (mat_of h) (sts l).length 0 (Nat.le_refl _)
  have hle' : (find l (sts m) m.length).1 ≤ (prt l m : Int) := hle
  have hk := fun c hc => find_keeps hl hm c hc
  unfold ftc
  obtain ⟨p, hp⟩ : ∃ p : Int, p = (find l (sts m) m.length).1 := ⟨_, rfl⟩
  rw [← hp] at b0 b1 b2 hle' hk ⊢
  rw [take_prt (m := m) p.toNat (by omega)]
  by_cases hx : p < (m.length : Int)
  · rw [if_pos hx, ← take_snocE m p.toNat (by omega)]
    exact ⟨p.toNat + 1, rfl, fun c hc => by have := hk c hc; omega⟩
  · rw [if_neg hx, List.append_nil]
    exact ⟨p.toNat, rfl, fun c hc => by have := hk c hc; omega⟩
end Go.Proofs.Ythmekhhfihjclbd.L9

namespace Go.Proofs.Ythmekhhfihjclbd.L9
open Go.RowKit L1 L7
set_option linter.unusedVariables false

structure Rm where
  G : List (List En)
  dn : List Bool
  ld : Int
  ep : Int
  sy : List Int
  ce : List En
abbrev Rm.lead (r : Rm) : List En := gg r.G r.ld
abbrev Rm.down (r : Rm) (k : Int) : Bool := r.dn.getD k.toNat false

structure Inv (r : Rm) : Prop where
  good : GoodR r.G r.dn.length r.ld r.ep r.sy r.ce
  ub : ∀ i, i < r.G.length → ∀ j, j < (r.G.getD i []).length → ((r.G.getD i []).getD j eE).1 ≤ r.ep
  one : ∀ i k, i < r.G.length → k < r.G.length → OneH (r.G.getD i []) (r.G.getD k [])
  own : ∀ i, i < r.G.length → ∀ j, j < (r.G.getD i []).length → ((r.G.getD i []).getD j eE).1 = r.ep → j < r.lead.length ∧ (r.G.getD i []).take (j + 1) = r.lead.take (j + 1)

theorem Inv.mono {r : Rm} (h : Inv r) (i : Nat) (hi : i < r.G.length) : Mono (r.G.getD i []) := (h.good.logs.2 i hi).mono
theorem Inv.node {r : Rm} (h : Inv r) : 0 ≤ r.ld ∧ r.ld < (r.G.length : Int) := h.good.node
theorem Inv.leadAt {r : Rm} (h : Inv r) : r.ld.toNat < r.G.length := by have := h.node; omega
theorem Inv.lmono {r : Rm} (h : Inv r) : Mono r.lead := h.mono _ h.leadAt
theorem getD_setG (G : List (List En)) (k i : Nat) (x : List En) (hi : i < G.length) : (G.set k x).getD i [] = if k = i then x else G.getD i [] := by
  simp only [List.getD, List.getElem?_set]
  by_cases h : k = i
  · subst h; simp [hi]
  · simp [h]
theorem pre_prt {a c : List En} : prt a c = c.length ↔ c <+: a := by
  constructor
  · intro h
    have h2 := L7.prt_le a c
    have := take_prt (l := a) (m := c) c.length (by omega)
    rw [List.take_length] at this
    rw [← this]
    exact List.take_prefix _ _
  · intro h
    obtain ⟨t, ht⟩ := h
    have h2 := L7.prt_le a c
    have := prt_ge a c c.length (by rw [← ht]; simp) (Nat.le_refl _) (by rw [← ht]; simp)
    omega
theorem Inv.cert {r : Rm} (h : Inv r) {k : Int} (hk : k ∈ r.sy) : r.ce <+: gg r.G k := by
  obtain ⟨j, hj, e⟩ := List.getElem_of_mem hk
  have := h.good.cert j hj
  rw [show r.sy.getD j 0 = k by simp [List.getD, List.getElem?_eq_getElem hj, e]] at this
  exact pre_prt.1 this
theorem cert_of {G : List (List En)} {sy : List Int} {ce : List En} (h : ∀ k ∈ sy, ce <+: gg G k) : ∀ j, j < sy.length → prt (gg G (sy.getD j 0)) ce = ce.length := fun j hj =>
  pre_prt.2 (h _ (by simp [List.getD, List.getElem?_eq_getElem hj]))
theorem good_take {l : List En} (h : GoodE l) (p : Nat) : GoodE (l.take p) := by
  refine ⟨by rw [List.length_take]; have := h.1; omega, fun j hj => ?_⟩
  rw [List.length_take] at hj
  rw [getD_takeE l p j (by omega)]
  have := h.2 j (by omega)
  refine ⟨this.1, fun h0 => ?_⟩
  rw [getD_takeE l p (j - 1) (by omega)]
  exact this.2 h0
theorem getD_snocE (l : List En) (x : En) (i : Nat) : (l ++ [x]).getD i eE = if i < l.length then l.getD i eE else if i = l.length then x else eE := by
  simp only [List.getD]
  by_cases h : i < l.length
  · rw [if_pos h, List.getElem?_append_left h]
  · rw [if_neg h, List.getElem?_append_right (by omega)]
    by_cases h2 : i = l.length
    · subst h2; simp
    · rw [if_neg h2]
      obtain ⟨d, hd⟩ : ∃ d, i - l.length = d + 1 := ⟨i - l.length - 1, by omega⟩
      rw [hd]; rfl
theorem last_le {l : List En} {e : Int} (hM : Mono l) (h : lastE l ≤ e) : ∀ j, j < l.length → (l.getD j eE).1 ≤ e := fun j hj => by
  unfold lastE at h
  rw [if_neg (by omega)] at h
  exact Int.le_trans (hM j (l.length - 1) (by omega) (by omega)) h
theorem good_snoc {l : List En} {e : Int} {t : ByteArray} (h : GoodE l) (hn : l.length < 40) (h1 : 1 ≤ e) (h2 : e ≤ 1000) (ht : t.size ≤ 20) (hl : lastE l ≤ e) : GoodE (l ++ [(e, t)]) := by
  refine ⟨by simp; omega, fun j hj => ?_⟩
  rw [List.length_append] at hj
  simp at hj
  rw [getD_snocE]
  by_cases hj2 : j < l.length
  · rw [if_pos hj2]
    have := h.2 j hj2
    refine ⟨this.1, fun h0 => ?_⟩
    rw [getD_snocE, if_pos (by omega)]
    exact this.2 h0
  · have hj3 : j = l.length := by omega
    rw [if_neg hj2, if_pos hj3]
    refine ⟨⟨h1, h2, ht⟩, fun h0 => ?_⟩
    rw [getD_snocE, if_pos (by omega)]
    exact last_le h.mono hl _ (by omega)

/-- A log is written behind: what the leader does. -/
theorem oneH_snoc {l m : List En} {e : Int} {t : ByteArray} (hM : Mono l) (hl : ∀ j, j < l.length → (l.getD j eE).1 ≤ e) (h : OneH l m)
    (hown : ∀ j, j < m.length → (m.getD j eE).1 = e → j < l.length ∧ m.take (j + 1) = l.take (j + 1)) : OneH (l ++ [(e, t)]) m := by
  refine ⟨fun i h1 h2 he => ?_, fun i j h1 h2 s u he => ?_⟩
  · rw [List.length_append] at h1
    simp at h1
    rw [getD_snocE] at he
    by_cases hi : i < l.length
    · rw [if_pos hi] at he
      rw [List.take_append_of_le_length (by omega)]
      exact h.h i hi h2 he
    · rw [if_neg hi, if_pos (by omega)] at he
      have := hown i h2 he.symm
      omega
  · rw [List.length_append] at h1
    simp at h1
    rw [getD_snocE] at he
    by_cases hi : i < l.length
    · rw [if_pos hi] at he
      refine h.b i j hi h2 ?_ u he
      rcases s with s | s
      · exact .inl s
      · right
        rwa [getD_snocE, getD_snocE, if_pos hi, if_pos (by omega)] at s
    · have hi2 : i = l.length := by omega
      rw [if_neg hi, if_pos hi2] at he
      exfalso
      obtain ⟨h3, h4⟩ := hown j h2 he.symm
      have h5 : (l.getD j eE).1 = e := by
        have := congrArg (fun x => (x.getD j eE).1) h4
        simp only [getD_takeE _ _ _ (Nat.lt_succ_self j)] at this
        rw [← this]; exact he.symm
      rcases s with s | s
      · omega
      · rw [getD_snocE, getD_snocE, if_pos (by omega), if_neg hi, if_pos hi2] at s
        have h6 := hM j (i - 1) (by omega) (by omega)
        have h7 := hl (i - 1) (by omega)
        exact s (Int.le_antisymm h7 (h5 ▸ h6))
theorem Inv.write {r : Rm} (h : Inv r) (t : ByteArray) (hn : r.lead.length ≠ 40) (ht : t.size ≤ 20) (hl : lastE r.lead ≤ r.ep) : Inv { r with G := r.G.set r.ld.toNat (r.lead ++ [(r.ep, t)]) } := by
  have hk := h.leadAt
  have hgl := h.good.logs.2 _ hk
  have hlen : r.lead.length ≤ 40 := hgl.1
  have hlt : r.lead.length < 40 := by omega
  have hle := last_le h.lmono hl
  have hgg : ∀ i, i < r.G.length → (r.G.set r.ld.toNat (r.lead ++ [(r.ep, t)])).getD i [] = if r.ld.toNat = i then r.lead ++ [(r.ep, t)] else r.G.getD i [] := fun i hi => getD_setG r.G _ i _ hi
  have hL : gg (r.G.set r.ld.toNat (r.lead ++ [(r.ep, t)])) r.ld = r.lead ++ [(r.ep, t)] := by show List.getD _ _ _ = _; rw [hgg _ hk, if_pos rfl]
  have hpre : ∀ k, 0 ≤ k → k < (r.G.length : Int) → gg r.G k <+: gg (r.G.set r.ld.toNat (r.lead ++ [(r.ep, t)])) k := fun k h0 h1 => by
    show _ <+: List.getD _ _ _
    rw [hgg _ (by omega)]
    split
    · rename_i e; show r.G.getD k.toNat [] <+: _; rw [← e]; exact List.prefix_append _ _
    · exact List.prefix_refl _
  refine ⟨⟨⟨by simpa using h.good.logs.1, fun i hi => ?_⟩, by simpa using h.good.down, h.good.e0, h.good.e1, by simpa using h.good.rise, h.good.lead, cert_of fun k hk' => ?_⟩, fun i hi j hj => ?_, fun i k hi hk' => ?_, fun i hi j hj he => ?_⟩
  · rw [List.length_set] at hi
    rw [hgg i hi]
    split
    · exact good_snoc hgl hlt h.good.e0 h.good.e1 ht hl
    · exact h.good.logs.2 i hi
  · have := rn_mem h.good.rise hk'
    exact (h.cert hk').trans (hpre k this.1 this.2)
  · have hi' : i < r.G.length := by simpa using hi
    revert hj
    show j < ((r.G.set r.ld.toNat _).getD i []).length → (((r.G.set r.ld.toNat _).getD i []).getD j eE).1 ≤ r.ep
    rw [hgg i hi']
    split
    · intro hj
      rw [List.length_append] at hj
      have hj1 : j < r.lead.length + 1 := hj
      rw [getD_snocE]
      by_cases hj2 : j < r.lead.length
      · rw [if_pos hj2]; exact hle j hj2
      · have hj3 : j = r.lead.length := by omega
        rw [if_neg hj2, if_pos hj3]; exact Int.le_refl _
    · exact h.ub i hi' j
  · have hi' : i < r.G.length := by simpa using hi
    have hk2 : k < r.G.length := by simpa using hk'
    show OneH ((r.G.set r.ld.toNat _).getD i []) ((r.G.set r.ld.toNat _).getD k [])
    rw [hgg i hi', hgg k hk2]
    split
    · split
      · exact oneH_self (good_snoc (t := t) hgl hlt h.good.e0 h.good.e1 ht hl).mono
      · exact oneH_snoc h.lmono hle (h.one _ _ hk hk2) (fun j hj e => h.own k hk2 j hj e)
    · split
      · exact (oneH_snoc h.lmono hle (h.one _ _ hk hi') (fun j hj e => h.own i hi' j hj e)).symm
      · exact h.one i k hi' hk2
  · have hi' : i < r.G.length := by simpa using hi
    show j < (gg (r.G.set r.ld.toNat _) r.ld).length ∧ ((r.G.set r.ld.toNat _).getD i []).take (j + 1) = (gg (r.G.set r.ld.toNat _) r.ld).take (j + 1)
    revert hj he
    show j < ((r.G.set r.ld.toNat _).getD i []).length → (((r.G.set r.ld.toNat _).getD i []).getD j eE).1 = r.ep → _
    rw [hgg i hi', hL]
    split
    · intro hj _
      exact ⟨hj, rfl⟩
    · intro hj he
      obtain ⟨h1, h2⟩ := h.own i hi' j hj he
      refine ⟨by rw [List.length_append]; omega, ?_⟩
      rw [List.take_append_of_le_length (by omega)]
      exact h2
/-- A node's log becomes a front of the leader's, of at least what is certain. -/
theorem Inv.front {r : Rm} (h : Inv r) (k p : Nat) (hk : k < r.G.length) (hne : (k : Int) ≠ r.ld) (hp : (k : Int) ∈ r.sy → r.ce.length ≤ p) : Inv { r with G := r.G.set k (r.lead.take p) } := by
  have hl := h.leadAt
  have hgl := h.good.logs.2 _ hl
  have hgg : ∀ i, i < r.G.length → (r.G.set k (r.lead.take p)).getD i [] = if k = i then r.lead.take p else r.G.getD i [] := fun i hi => getD_setG r.G _ i _ hi
  have hL : gg (r.G.set k (r.lead.take p)) r.ld = r.lead := by
    show List.getD _ _ _ = _
    rw [hgg _ hl, if_neg (fun e => hne (by have := h.node; omega))]
  refine ⟨⟨⟨by simpa using h.good.logs.1, fun i hi => ?_⟩, by simpa using h.good.down, h.good.e0, h.good.e1, by simpa using h.good.rise, h.good.lead, cert_of fun m hm => ?_⟩, fun i hi j hj => ?_, fun i m hi hm => ?_, fun i hi j hj he => ?_⟩
  · rw [List.length_set] at hi
    rw [hgg i hi]
    split
    · exact good_take hgl p
    · exact h.good.logs.2 i hi
  · have h1 := rn_mem h.good.rise hm
    show _ <+: List.getD _ _ _
    rw [hgg _ (by omega)]
    split
    · rename_i e
      have hmk : m = (k : Int) := by omega
      rw [hmk] at hm
      have h2 := h.cert h.good.lead
      obtain ⟨t, ht⟩ := h2
      have h3 := hp hm
      rw [show r.lead = r.ce ++ t from ht.symm, List.take_append, List.take_of_length_le h3]
      exact List.prefix_append _ _
    · exact h.cert hm
  · have hi' : i < r.G.length := by simpa using hi
    revert hj
    show j < ((r.G.set k _).getD i []).length → (((r.G.set k _).getD i []).getD j eE).1 ≤ r.ep
    rw [hgg i hi']
    split
    · intro hj
      rw [List.length_take] at hj
      rw [getD_takeE _ _ _ (by omega)]
      exact h.ub _ hl j (by show j < r.lead.length; omega)
    · exact h.ub i hi' j
  · have hi' : i < r.G.length := by simpa using hi
    have hm' : m < r.G.length := by simpa using hm
    show OneH ((r.G.set k _).getD i []) ((r.G.set k _).getD m [])
    rw [hgg i hi', hgg m hm']
    split
    · split
      · exact oneH_self (good_take hgl p).mono
      · exact (h.one _ _ hl hm').take p
    · split
      · exact ((h.one _ _ hl hi').take p).symm
      · exact h.one i m hi' hm'
  · have hi' : i < r.G.length := by simpa using hi
    show j < (gg (r.G.set k _) r.ld).length ∧ ((r.G.set k _).getD i []).take (j + 1) = (gg (r.G.set k _) r.ld).take (j + 1)
    revert hj he
    show j < ((r.G.set k _).getD i []).length → (((r.G.set k _).getD i []).getD j eE).1 = r.ep → _
    rw [hgg i hi', hL]
    split
    · intro hj _
      rw [List.length_take] at hj
      exact ⟨by omega, take_takeE _ (by omega)⟩
    · exact h.own i hi' j
/-- Other nodes are in step. -/
theorem Inv.sync {r : Rm} (h : Inv r) (sy : List Int) (h1 : L8.RN (r.G.length : Int) sy) (h2 : r.ld ∈ sy) (h3 : ∀ k ∈ sy, r.ce <+: gg r.G k) : Inv { r with sy := sy } :=
  ⟨⟨h.good.logs, h.good.down, h.good.e0, h.good.e1, h1, h2, cert_of h3⟩, h.ub, h.one, h.own⟩
theorem Inv.downs {r : Rm} (h : Inv r) (dn : List Bool) (h1 : dn.length = r.dn.length) : Inv { r with dn := dn } :=
  ⟨⟨h.good.logs, by rw [h1]; exact h.good.down, h.good.e0, h.good.e1, h.good.rise, h.good.lead, h.good.cert⟩, h.ub, h.one, h.own⟩
theorem Inv.elect {r : Rm} (h : Inv r) (k : Int) (hk : k ∈ r.sy) (he : r.ep < 1000) : Inv { r with ld := k, ep := r.ep + 1 } :=
  ⟨⟨h.good.logs, h.good.down, by have := h.good.e0; show 1 ≤ r.ep + 1; omega, by show r.ep + 1 ≤ 1000; omega, h.good.rise, hk, h.good.cert⟩, fun i hi j hj => Int.le_trans (h.ub i hi j hj) (by show r.ep ≤ r.ep + 1; omega), h.one, fun i hi j hj e => by
    have h1 := h.ub i hi j hj
    have h2 : ((r.G.getD i []).getD j eE).1 = r.ep + 1 := e
    omega⟩
/-- What is certain: at least what was. -/
theorem cerK_ge {G : List (List En)} {lead : List En} {sy : List Int} {c : Nat} (h1 : c ≤ lead.length) (h2 : ∀ j, j < sy.length → c ≤ prt (gg G (sy.getD j 0)) lead) : ∀ k, k ≤ sy.length → c ≤ cerK G lead sy k
  | 0, _ => h1
  | k + 1, hk => by
    have := cerK_ge h1 h2 k (by omega)
    have := h2 k (by omega)
    show c ≤ min _ _
    omega
theorem cerK_at (G : List (List En)) (lead : List En) (sy : List Int) : ∀ k j, j < k → cerK G lead sy k ≤ prt (gg G (sy.getD j 0)) lead
  | 0, j, h => by omega
  | k + 1, j, h => by
    show min _ _ ≤ _
    rcases Nat.lt_or_ge j k with h1 | h1
    · have := cerK_at G lead sy k j h1
      omega
    · obtain rfl : j = k := by omega
      omega
theorem Inv.cer_ge {r : Rm} (h : Inv r) : r.ce.length ≤ cerL r.G r.ld r.sy := by
  obtain ⟨t, ht⟩ := h.cert h.good.lead
  refine cerK_ge (by rw [← ht]; simp) (fun j hj => ?_) _ (Nat.le_refl _)
  obtain ⟨u, hu⟩ := h.cert (k := r.sy.getD j 0) (by simp [List.getD, List.getElem?_eq_getElem hj])
  rw [← hu, ← ht]
  exact prt_ge _ _ _ (by simp) (by simp) (by simp)
noncomputable def setl (r : Rm) : Rm := if r.ce.length < cerL r.G r.ld r.sy then { r with ce := r.lead.take (cerL r.G r.ld r.sy) } else r
theorem Inv.settle {r : Rm} (h : Inv r) : Inv (setl r) := by
  unfold setl
  split
  · rename_i hx
    refine ⟨⟨h.good.logs, h.good.down, h.good.e0, h.good.e1, h.good.rise, h.good.lead, cert_of fun k hk => ?_⟩, h.ub, h.one, h.own⟩
    obtain ⟨j, hj, e⟩ := List.getElem_of_mem hk
    have h1 := cerK_at r.G r.lead r.sy r.sy.length j hj
    rw [show r.sy.getD j 0 = k by simp [List.getD, List.getElem?_eq_getElem hj, e]] at h1
    show r.lead.take (cerL r.G r.ld r.sy) <+: gg r.G k
    rw [← take_prt (cerL r.G r.ld r.sy) h1]
    exact List.take_prefix _ _
  · exact h
theorem cerL_ce (r : Rm) (ce : List En) : cerL { r with ce := ce }.G { r with ce := ce }.ld { r with ce := ce }.sy = cerL r.G r.ld r.sy := rfl
theorem setl_cer {r : Rm} (h : Inv r) : cerL (setl r).G (setl r).ld (setl r).sy = (setl r).ce.length := by
  have hle := cerK_le r.G r.lead r.sy r.sy.length
  have hge := h.cer_ge
  have e : (setl r).ce.length = cerL r.G r.ld r.sy := by
    unfold setl
    split
    · show (r.lead.take (cerL r.G r.ld r.sy)).length = _
      rw [List.length_take]
      have : cerL r.G r.ld r.sy ≤ r.lead.length := hle
      omega
    · omega
  rw [e]
  unfold setl
  split <;> rfl
theorem setl_pre {r : Rm} (h : Inv r) : r.ce <+: (setl r).ce := by
  unfold setl
  split
  · rename_i hx
    obtain ⟨t, ht⟩ := h.cert h.good.lead
    show r.ce <+: r.lead.take _
    rw [show r.lead = r.ce ++ t from ht.symm, List.take_append, List.take_of_length_le (by omega)]
    exact List.prefix_append _ _
  · exact List.prefix_refl _

/-- What a step does, but for what is certain: none where nothing can be done. -/
def doM (r : Rm) (kd nd : Int) (t : ByteArray) : Option Rm :=
  if kd = 1 then
    if nd = 0 ∧ t.size ≤ 20 ∧ r.down r.ld = false ∧ r.lead.length ≠ 40 ∧ lastE r.lead ≤ r.ep then some { r with G := r.G.set r.ld.toNat (r.lead ++ [(r.ep, t)]) } else none
  else if t.size = 0 ∧ 0 ≤ nd ∧ nd < (r.G.length : Int) then
    if kd = 2 then if nd ≠ r.ld ∧ r.down nd = false ∧ r.down r.ld = false then some { r with G := r.G.set nd.toNat (ftc (gg r.G nd) r.lead) } else none
    else if kd = 3 then if nd ≠ r.ld ∧ r.down r.ld = false ∧ nd ∈ r.sy then some { r with sy := L4.those [nd] false r.sy } else none
    else if kd = 4 then if gg r.G nd = r.lead ∧ r.down r.ld = false ∧ nd ∉ r.sy then some { r with sy := L4.put r.sy nd } else none
    else if kd = 5 then if r.down nd = false then some { r with dn := r.dn.set nd.toNat true } else none
    else if kd = 6 then if r.down nd = true then some { r with dn := r.dn.set nd.toNat false } else none
    else if kd = 7 then if nd ∈ r.sy ∧ r.down nd = false ∧ r.ep ≠ 1000 then some { r with ld := nd, ep := r.ep + 1 } else none
    else none
  else none
theorem rn_of {n : Int} {l : List Int} (h1 : L4.Rise l) (h2 : ∀ x ∈ l, 0 ≤ x ∧ x < n) : L8.RN n l := fun j hj => ⟨h2 _ (L4.getD_mem hj), fun h0 => L4.rise_get h1 (by omega) hj⟩
theorem rn_rise {n : Int} {l : List Int} (h : L8.RN n l) : L4.Rise l := L4.rise_of_step fun j hj h0 => (h j hj).2 h0
theorem Inv.step {r x : Rm} {kd nd : Int} {t : ByteArray} (h : Inv r) (hx : doM r kd nd t = some x) : Inv x := by
  unfold doM at hx
  by_cases k1 : kd = 1
  · rw [if_pos k1] at hx
    split at hx
    · rename_i hc
      cases hx
      exact h.write t hc.2.2.2.1 hc.2.1 hc.2.2.2.2
    · cases hx
  · rw [if_neg k1] at hx
    split at hx
    · rename_i hb
      obtain ⟨_, b0, b1⟩ := hb
      have hnd : nd = (nd.toNat : Int) := by omega
      by_cases k2 : kd = 2
      · rw [if_pos k2] at hx
        split at hx
        · rename_i hc
          cases hx
          obtain ⟨p, hp1, hp2⟩ := ftc_is (h.mono nd.toNat (by omega)) h.lmono (h.one nd.toNat r.ld.toNat (by omega) h.leadAt)
          show Inv { r with G := r.G.set nd.toNat (ftc (r.G.getD nd.toNat []) r.lead) }
          rw [show ftc (r.G.getD nd.toNat []) r.lead = r.lead.take p from hp1]
          refine h.front nd.toNat p (by omega) (by rw [← hnd]; exact hc.1) (fun hm => hp2 _ ?_)
          rw [← hnd] at hm
          obtain ⟨u, hu⟩ := h.cert hm
          obtain ⟨v, hv⟩ := h.cert h.good.lead
          show _ ≤ prt (gg r.G nd) (gg r.G r.ld)
          rw [← hu, ← hv]
          exact prt_ge _ _ _ (by simp) (by simp) (by simp)
        · cases hx
      rw [if_neg k2] at hx
      by_cases k3 : kd = 3
      · rw [if_pos k3] at hx
        split at hx
        · rename_i hc
          cases hx
          have hm : ∀ y, y ∈ L4.those [nd] false r.sy ↔ y ∈ r.sy ∧ y ≠ nd := fun y => by
            unfold L4.those
            rw [List.mem_filter]
            simp
          refine h.sync _ (rn_of ((rn_rise h.good.rise).filter _) fun y hy => rn_mem h.good.rise ((hm y).1 hy).1) ((hm _).2 ⟨h.good.lead, fun e => hc.1 e.symm⟩) fun k hk => h.cert ((hm k).1 hk).1
        · cases hx
      rw [if_neg k3] at hx
      by_cases k4 : kd = 4
      · rw [if_pos k4] at hx
        split at hx
        · rename_i hc
          cases hx
          refine h.sync _ (rn_of (L4.put_rise (rn_rise h.good.rise)) fun y hy => ?_) ((L4.put_mem _ _ _).2 (.inr h.good.lead)) fun k hk => ?_
          · rcases (L4.put_mem _ _ _).1 hy with rfl | hy
            · exact ⟨b0, b1⟩
            · exact rn_mem h.good.rise hy
          · rcases (L4.put_mem _ _ _).1 hk with rfl | hk
            · rw [hc.1]; exact h.cert h.good.lead
            · exact h.cert hk
        · cases hx
      rw [if_neg k4] at hx
      by_cases k5 : kd = 5
      · rw [if_pos k5] at hx
        split at hx
        · cases hx
          exact h.downs _ (by simp)
        · cases hx
      rw [if_neg k5] at hx
      by_cases k6 : kd = 6
      · rw [if_pos k6] at hx
        split at hx
        · cases hx
          exact h.downs _ (by simp)
        · cases hx
      rw [if_neg k6] at hx
      by_cases k7 : kd = 7
      · rw [if_pos k7] at hx
        split at hx
        · rename_i hc
          cases hx
          have := h.good.e1
          exact h.elect nd hc.1 (by omega)
        · cases hx
      rw [if_neg k7] at hx
      cases hx
    · cases hx
noncomputable def stepM (r : Rm) (s : Int × Int × ByteArray) : Option Rm := (doM r s.1 s.2.1 s.2.2).map setl
theorem Inv.steps {r x : Rm} {s : Int × Int × ByteArray} (h : Inv r) (hx : stepM r s = some x) : Inv x := by
  unfold stepM at hx
  cases hd : doM r s.1 s.2.1 s.2.2 with
  | none => rw [hd] at hx; cases hx
  | some y =>
    rw [hd] at hx
    cases hx
    exact (h.step hd).settle
/-- The world behind steps, and whether each was done. -/
noncomputable def plK (r : Rm) (ss : List (Int × Int × ByteArray)) : Nat → Rm × List Bool
  | 0 => (r, [])
  | k + 1 => match stepM (plK r ss k).1 (ss.getD k (0, 0, ByteArray.empty)) with
    | some x => (x, (plK r ss k).2 ++ [true])
    | none => ((plK r ss k).1, (plK r ss k).2 ++ [false])
theorem plK_inv {r : Rm} (h : Inv r) (ss : List (Int × Int × ByteArray)) : ∀ k, Inv (plK r ss k).1
  | 0 => h
  | k + 1 => by
    have ih := plK_inv h ss k
    unfold plK
    split
    · rename_i hx; exact ih.steps hx
    · exact ih
theorem plK_len (r : Rm) (ss : List (Int × Int × ByteArray)) : ∀ k, (plK r ss k).2.length = k
  | 0 => rfl
  | k + 1 => by
    have ih := plK_len r ss k
    unfold plK
    split <;> simp [ih]
def newM (n : Nat) : Rm := ⟨List.replicate n [], List.replicate n false, 0, 1, (List.range n).map fun j : Nat => (j : Int), []⟩
theorem repl_get (n i : Nat) : (List.replicate n ([] : List En)).getD i [] = [] := by
  simp only [List.getD, List.getElem?_replicate]
  split <;> rfl
theorem newM_inv (n : Nat) (h1 : 1 ≤ n) (h5 : n ≤ 5) : Inv (newM n) := by
  have hg : ∀ i, (newM n).G.getD i [] = [] := fun i => repl_get n i
  have hl : (newM n).G.length = n := by simp [newM]
  have hm : ∀ x ∈ (newM n).sy, 0 ≤ x ∧ x < (n : Int) := fun x hx => by
    simp only [newM, List.mem_map, List.mem_range] at hx
    obtain ⟨j, hj, rfl⟩ := hx
    omega
  refine ⟨⟨⟨by rw [hl]; exact ⟨h1, h5⟩, fun i _ => by rw [hg]; exact ⟨Nat.zero_le _, fun j hj => absurd hj (Nat.not_lt_zero _)⟩⟩, by simp [newM], Int.le_refl _, (by show (1 : Int) ≤ 1000; decide), ?_, ?_, cert_of fun k _ => List.nil_prefix⟩, fun i _ j hj => ?_, fun i k _ _ => ?_, fun i _ j hj => ?_⟩
  · rw [hl]
    refine rn_of (L4.rise_of_step fun j hj h0 => ?_) hm
    simp only [newM, List.length_map, List.length_range] at hj
    simp only [newM, List.getD, List.getElem?_map, List.getElem?_range hj, List.getElem?_range (show j - 1 < n by omega), Option.map_some, Option.getD_some]
    omega
  · simp only [newM, List.mem_map, List.mem_range]
    exact ⟨0, by omega, rfl⟩
  · rw [hg] at hj; simp at hj
  · rw [hg, hg]; exact ⟨fun i h => absurd h (Nat.not_lt_zero _), fun i j h => absurd h (Nat.not_lt_zero _)⟩
  · rw [hg] at hj; simp at hj
end Go.Proofs.Ythmekhhfihjclbd.L9

namespace Go.Proofs.Ythmekhhfihjclbd.L9
open Go.RowKit L1
set_option linter.unusedVariables false

theorem info_bool : (Try.prog.info? 4).map (fun i => (i.zero, i.size, i.bytes)) = some (some (.bool false), 1, 1) := by kernel_rfl
def SlB (w : World) (a : Option Addr) (xs : List Bool) : Prop := ∀ i, i < xs.length → ∃ b off, a = some ⟨b, off, none⟩ ∧ w.cell? ⟨b, off + i, none⟩ = some (.bool (xs.getD i false))

theorem SlB.below {w w' : World} {a : Option Addr} {xs : List Bool} (h : SlB w a xs) (hb : Below w.heap.size w w') : SlB w' a xs := fun i hi => by
  obtain ⟨b, off, ha, hc⟩ := h i hi
  refine ⟨b, off, ha, ?_⟩
  rw [hb.cell (p := ⟨b, off + i, none⟩) (blk_lt hc)]
  exact hc
theorem sl_of_ownB {w : World} {base g n cap : Nat} {xs : List Bool} (h : w.ownsRow base 4 1 (.slice (some ⟨g, 0, none⟩) n cap) n (xs.map Value.bool)) : SlB w (some ⟨g, 0, none⟩) xs := fun i hi => by
  have := h.cells (g := g) rfl i (.bool (xs.getD i false)) (by
    rw [List.getElem?_map, List.getElem?_eq_getElem hi]
    simp [List.getD, List.getElem?_eq_getElem hi])
  rw [addr_add] at this
  exact ⟨g, 0, rfl, by simpa using this⟩
theorem made_bools (n : Nat) : (madeCells (Value.bool false).cells (n * 1)).toList = (List.replicate n false).map Value.bool := by
  rw [Nat.mul_one]
  show (madeCells #[Value.bool false] n).toList = _
  rw [toList_madeCells_one]
  simp

theorem copy_roundB {w wr : World} {xs ys : List Bool} {m k : Nat} (hlt : k < m) (hm : xs.length = m) (hl : ys.length = m) (HX : ∀ j, j < k → ys.getD j false = xs.getD j false)
    (hown : wr.ownsRow w.heap.size 4 1 (.slice (some ⟨w.heap.size, 0, none⟩) m m) m (ys.map Value.bool)) (hb : Below w.heap.size w wr) :
    ∃ (k' : Nat) (ys' : List Bool), k' ≤ m ∧ Value.int .i64 ((k : Int) + 1) = .int .i64 k' ∧ ys'.length = m ∧ Hid (∀ j, j < k' → ys'.getD j false = xs.getD j false) ∧
      (wr.setCell ⟨w.heap.size, k, none⟩ (.bool (xs.getD k false))).ownsRow w.heap.size 4 1 (.slice (some ⟨w.heap.size, 0, none⟩) m m) m (ys'.map Value.bool) ∧ Below w.heap.size w (wr.setCell ⟨w.heap.size, k, none⟩ (.bool (xs.getD k false))) := by
  have hst := hown.stored k (.bool (xs.getD k false))
  have hb2 := hb.setCell (p := ⟨w.heap.size, k, none⟩) (Nat.le_refl _) (.bool (xs.getD k false))
  refine ⟨k + 1, ys.set k (xs.getD k false), by omega, by simp, by simpa using hl, ?_, by rw [List.map_set]; exact hst.1, hb2⟩
  intro j hj
  by_cases e : j = k
  · subst e
    simp [List.getD, hl, hlt]
  · rw [← HX j (by omega)]
    simp [List.getD, Ne.symm e]
theorem list_sameB {xs ys : List Bool} {m : Nat} (h1 : xs.length = m) (h2 : ys.length = m) (h : ∀ j, j < m → ys.getD j false = xs.getD j false) : ys = xs := by
  apply List.ext_getElem?
  intro j
  by_cases hj : j < m
  · have h := h j hj
    simp only [List.getD, List.getElem?_eq_getElem (show j < ys.length by omega), List.getElem?_eq_getElem (show j < xs.length by omega), Option.getD_some] at h
    rw [List.getElem?_eq_getElem (show j < ys.length by omega), List.getElem?_eq_getElem (show j < xs.length by omega), h]
  · rw [List.getElem?_eq_none (by omega), List.getElem?_eq_none (by omega)]

theorem own_formB {w : World} {base n : Nat} {v : Value} {xs : List Bool} (h : w.ownsRow base 4 1 v n (xs.map Value.bool)) : ∃ a cap, v = .slice a n cap ∧ SlB w a xs ∧ xs.length = n := by
  have hl := h.1
  simp at hl
  rcases h.2 with ⟨hv, h0⟩ | ⟨g, cap, cur, hv, _⟩
  · subst h0
    exact ⟨none, 0, hv, fun i hi => by omega, hl⟩
  · subst hv
    exact ⟨_, cap, rfl, sl_of_ownB h, hl⟩
end Go.Proofs.Ythmekhhfihjclbd.L9

namespace Go.Proofs.Ythmekhhfihjclbd.L7
open Go.RowKit L1
set_option linter.unusedVariables false

/-- The least Epoch that may stand at a place. -/
def lstE (l : List En) : Nat → Int
  | 0 => 1
  | k + 1 => (l.getD k eE).1
/-- The entry at a place is good behind those ahead. -/
def StepE (l : List En) (k : Nat) : Prop := lstE l k ≤ (l.getD k eE).1 ∧ (l.getD k eE).1 ≤ 1000 ∧ (l.getD k eE).2.size ≤ 20
theorem lstE_ge (l : List En) (k : Nat) (h : ∀ j, j < k → StepE l j) : 1 ≤ lstE l k := by
  induction k with
  | zero => simp [lstE]
  | succ k ih => have := (h k (by omega)).1; have h1 := ih (fun j hj => h j (by omega)); show 1 ≤ (l.getD k eE).1; omega
theorem goodE_step (l : List En) : GoodE l ↔ l.length ≤ 40 ∧ ∀ j, j < l.length → StepE l j := by
  constructor
  · rintro ⟨h1, h2⟩
    refine ⟨h1, fun j hj => ⟨?_, (h2 j hj).1.2.1, (h2 j hj).1.2.2⟩⟩
    cases j with
    | zero => exact (h2 0 hj).1.1
    | succ j => have := (h2 (j + 1) hj).2 (by omega); simpa [lstE] using this
  · rintro ⟨h1, h2⟩
    refine ⟨h1, fun j hj => ⟨⟨?_, (h2 j hj).2.1, (h2 j hj).2.2⟩, fun h0 => ?_⟩⟩
    · have := lstE_ge l j (fun i hi => h2 i (by omega)); have h3 := (h2 j hj).1; omega
    · cases j with
      | zero => omega
      | succ j => exact (h2 (j + 1) hj).1

set_option maxRecDepth 100000 in
set_option maxHeartbeats 2000000 in
theorem goodEntries_any (a : Option Addr) (l : List En) (n cap : Nat) (w : World) (hn : l.length = n) (hs : SlE w a l) (hn2 : n ≤ 1048576) (hst : ∀ j, j < l.length → (l.getD j eE).2.size ≤ 9223372036854775807) (bb : Bool) (hbb : bb = true ↔ GoodE l) :
    Calls Try.prog 77 #[.slice a n cap] w fun e w' => e = .returned (.bool bb) ∧ Below w.heap.size w w' := by
  have HBB := hide (hbb.trans (goodE_step l))
  clear hbb
  by_cases h40 : 40 < (n : Int)
  · have HNO : Hid (bb = false) := bool_noT HBB.out (fun h => by have := h.1; omega)
    clear hs hn
    go_enter Try.func77, Try.ntmps77
    go_wp2
    go_ret
    exact ⟨by rw [HNO.out]; rfl, Below.refl _ _⟩
  have HS := hide hs
  have HN := hide hn
  have HST := hide hst
  clear hs hn hst
  go_enter Try.func77, Try.ntmps77
  go_wp2
  go_loopw [3, 11] (fun t i wr => ∃ k : Nat, k ≤ n ∧ i = .int .i64 k ∧ t = .int .i64 (lstE l k) ∧ Hid (∀ j, j < k → StepE l j) ∧ Below w.heap.size w wr) (fun _ i _ => n - (intOf i).toNat)
  case atStart => exact ⟨0, Nat.zero_le _, rfl, rfl, fun j hj => absurd hj (Nat.not_lt_zero _), Below.refl _ _⟩
  case round =>
    obtain ⟨k, hk, rfl, rfl, HJ, hbel⟩ := hrel
    by_cases hlt : k < n
    · have hno : bb = true → StepE l k := fun h => (HBB.out.1 h).2 k (by rw [HN.out]; exact hlt)
      have hnx : lstE l (k + 1) = (l.getD k eE).1 := rfl
      have hste : StepE l k ↔ lstE l k ≤ (l.getD k eE).1 ∧ (l.getD k eE).1 ≤ 1000 ∧ (l.getD k eE).2.size ≤ 20 := Iff.rfl
      obtain ⟨b, off, rfl, hc0, hd0⟩ := HS.out k (by rw [HN.out]; exact hlt)
      have hc := (hbel.cell (p := ⟨b, off + k * 2, none⟩) (blk_lt hc0)).trans hc0
      have hd := (hbel.cell (p := ⟨b, off + k * 2 + 1, none⟩) (blk_lt hd0)).trans hd0
      have hltI : (k : Int) < (n : Int) := by omega
      have hsy := HST.out k (by rw [HN.out]; exact hlt)
      obtain ⟨x, hx⟩ : ∃ x, x = (l.getD k eE).1 := ⟨_, rfl⟩
      obtain ⟨y, hy⟩ : ∃ y, y = (l.getD k eE).2 := ⟨_, rfl⟩
      rw [← hx] at hc
      rw [← hy] at hd hsy
      rw [← hx, ← hy] at hste
      rw [← hx] at hnx
      obtain ⟨L, hL⟩ : ∃ L, L = lstE l k := ⟨_, rfl⟩
      rw [← hL] at hste ⊢
      have HNO := hide hno
      have HNX := hide hnx
      have HSTE := hide hste
      have B0 := hide hbel
      clear hc0 hd0 hx hy hbel hL hno hnx hste
      by_cases h1 : x < L
      · have E : Hid (bb = false) := by
          cases bb with
          | false => rfl
          | true => have := HSTE.out.1 (HNO.out rfl); omega
        go_wp2
        go_ret
        exact ⟨by rw [E.out]; rfl, B0.out.alloc B0.out.size _⟩
      · by_cases h2 : 1000 < x
        · have E : Hid (bb = false) := by
            cases bb with
            | false => rfl
            | true => have := HSTE.out.1 (HNO.out rfl); omega
          go_wp2
          go_ret
          exact ⟨by rw [E.out]; rfl, B0.out.alloc B0.out.size _⟩
        · by_cases h3 : 20 < (y.size : Int)
          · have E : Hid (bb = false) := by
              cases bb with
              | false => rfl
              | true => have := HSTE.out.1 (HNO.out rfl); omega
            go_wp2
            go_ret
            exact ⟨by rw [E.out]; rfl, B0.out.alloc B0.out.size _⟩
          · have HK : Hid (∀ j, j < k + 1 → StepE l j) := fun j hj => by
              by_cases e : j = k
              · subst e; exact HSTE.out.2 ⟨by omega, by omega, by omega⟩
              · exact HJ.out j (by omega)
            go_wp2
            go_roundw
            case rel => exact ⟨k + 1, by omega, by go_num, by rw [HNX.out], HK.out, B0.out.alloc B0.out.size _⟩
            case measure => simp [intOf]; omega
    · have hltI : ¬ (k : Int) < (n : Int) := by omega
      have E : Hid (bb = true) := HBB.out.2 ⟨by rw [HN.out]; omega, fun j hj => HJ.out j (by rw [HN.out] at hj; omega)⟩
      go_wp2
      go_ret
      exact ⟨by rw [E.out]; rfl, hbel⟩
end Go.Proofs.Ythmekhhfihjclbd.L7

namespace Go.Proofs.Ythmekhhfihjclbd.L9
open Go.RowKit L1 L7
set_option linter.unusedVariables false

set_option maxRecDepth 100000 in
set_option maxHeartbeats 1000000 in
theorem goodReplLogs_any (a : Option Addr) (G : List (List En)) (n cap : Nat) (w : World) (hn : G.length = n) (hs : SlG w a G) (hn2 : n ≤ 1048576) (hls : ∀ i, i < G.length → (G.getD i []).length ≤ 1048576) (htx : TxG G) (bb : Bool) (hbb : bb = true ↔ GoodLs G) :
    Calls Try.prog 60 #[.slice a n cap] w fun e w' => e = .returned (.bool bb) ∧ Below w.heap.size w w' := by
  have HBB := hide hbb
  have HS := hide hs
  have HN := hide hn
  have HLS := hide hls
  have HTX := hide htx
  clear hbb hs hn hls htx
  by_cases h1 : (n : Int) < 1
  · have E : Hid (bb = false) := bool_noT HBB.out (fun h => by have := h.1.1; have := HN.out; omega)
    go_enter Try.func60, Try.ntmps60
    go_wp2
    go_ret
    exact ⟨by rw [E.out]; rfl, Below.refl _ _⟩
  by_cases h5 : (5 : Int) < (n : Int)
  · have E : Hid (bb = false) := bool_noT HBB.out (fun h => by have := h.1.2; have := HN.out; omega)
    go_enter Try.func60, Try.ntmps60
    go_wp2
    go_ret
    exact ⟨by rw [E.out]; rfl, Below.refl _ _⟩
  go_enter Try.func60, Try.ntmps60
  go_wp2
  go_loopw [15] (fun i wr => ∃ k : Nat, k ≤ n ∧ i = .int .i64 k ∧ Hid (∀ j, j < k → GoodE (G.getD j [])) ∧ Below w.heap.size w wr) (fun i _ => n - (intOf i).toNat)
  case atStart => exact ⟨0, Nat.zero_le _, rfl, fun j hj => absurd hj (Nat.not_lt_zero _), Below.refl _ _⟩
  case round =>
    obtain ⟨k, hk, rfl, HK, hbel⟩ := hrel
    by_cases hlt : k < n
    · obtain ⟨b, off, rfl, ai, ci, hc0, hs0⟩ := HS.out k (by rw [HN.out]; exact hlt)
      have hc := (hbel.cell (p := ⟨b, off + k, none⟩) (blk_lt hc0)).trans hc0
      have hs1 := hs0.below hbel
      have hlx := HLS.out k (by rw [HN.out]; exact hlt)
      have htx := (HTX.out k (by rw [HN.out]; exact hlt)).2
      obtain ⟨l, hl⟩ : ∃ l, l = G.getD k [] := ⟨_, rfl⟩
      rw [← hl] at hc hs1 hlx htx
      obtain ⟨m, hmm⟩ : ∃ m, m = l.length := ⟨_, rfl⟩
      rw [← hmm] at hc hlx
      have hltI : (k : Int) < (n : Int) := by omega
      obtain ⟨bk, hbk⟩ : ∃ bk : Bool, bk = true ↔ GoodE l := by classical exact ⟨decide (GoodE l), by simp⟩
      have C := hide (goodEntries_any ai l m ci wr hmm.symm hs1 hlx htx bk hbk)
      have HL := hide hl
      have HB := hide hbk
      have B0 := hide hbel
      clear hc0 hs0 hs1 hl hmm hbk htx hbel
      go_wp2_with fail
      refine C.out.mono ?_
      rintro e w1 ⟨rfl, hb1⟩
      have B1 := hide (B0.out.trans (hb1.mono B0.out.size))
      clear hb1
      cases bk with
      | false =>
        have E : Hid (bb = false) := bool_noT HBB.out (fun h => by
          have h2 := h.2 k (by rw [HN.out]; exact hlt)
          rw [← HL.out] at h2
          have := HB.out.2 h2
          cases this)
        go_wp2
        go_ret
        exact ⟨by rw [E.out]; rfl, B1.out⟩
      | true =>
        go_wp2
        go_roundw
        case rel =>
          refine ⟨k + 1, by omega, by go_num, ?_, B1.out⟩
          intro j hj
          by_cases e : j = k
          · rw [e, ← HL.out]
            exact HB.out.1 (by first | rfl | trivial)
          · exact HK.out j (by omega)
        case measure => simp [intOf]; omega
    · obtain rfl : k = n := by omega
      have hltI : ¬ (k : Int) < (k : Int) := by omega
      have E : Hid (bb = true) := HBB.out.2 ⟨by have := HN.out; omega, fun i hi => HK.out i (by have := HN.out; omega)⟩
      go_wp2
      go_ret
      exact ⟨by rw [E.out]; rfl, hbel⟩
end Go.Proofs.Ythmekhhfihjclbd.L9
