/-
  Plain mathematics of chapter 2: differences and running sums of numbers; good samples; the numbers of a chunk, and the samples that they tell. Nothing of Go stands here.
-/
import Derived.Test.YticgejaaoamhmapL1Cat
import Derived.Test.YticgejaaoamhmapL1AllMath
import Derived.Test.YticgejaaoamhmapL1LawMath
namespace Go.Proofs.Yticgejaaoamhmap.L1
set_option linter.unusedVariables false

/-- Each number less the one ahead. -/
def dl : Int → List Int → List Int
  | _, [] => []
  | p, x :: l => (x - p) :: dl x l
/-- Each number with all ahead of it. -/
def sm : Int → List Int → List Int
  | _, [] => []
  | s, x :: l => (s + x) :: sm (s + x) l
theorem dl_len : ∀ (l : List Int) (p : Int), (dl p l).length = l.length
  | [], _ => rfl
  | x :: l, _ => by simp [dl, dl_len l]
theorem sm_len : ∀ (l : List Int) (p : Int), (sm p l).length = l.length
  | [], _ => rfl
  | x :: l, _ => by simp [sm, sm_len l]
theorem sm_dl : ∀ (l : List Int) (p : Int), sm p (dl p l) = l
  | [], _ => rfl
  | x :: l, p => by
    have e : p + (x - p) = x := by omega
    simp only [dl, sm, e, sm_dl l]
theorem dl_sm : ∀ (l : List Int) (p : Int), dl p (sm p l) = l
  | [], _ => rfl
  | x :: l, p => by
    have e : p + x - p = x := by omega
    simp only [dl, sm, e, dl_sm l]
theorem dl_get : ∀ (l : List Int) (p : Int) (k : Nat), k < l.length → (dl p l).getD k 0 = l.getD k 0 - (p :: l).getD k 0
  | [], _, k, h => by simp at h
  | x :: l, p, 0, _ => rfl
  | x :: l, p, k + 1, h => by
    have := dl_get l x k (by simpa using h)
    simpa only [dl, List.getD_cons_succ] using this
theorem sm_get : ∀ (l : List Int) (s : Int) (k : Nat), k < l.length → (sm s l).getD k 0 = (s :: sm s l).getD k 0 + l.getD k 0
  | [], _, k, h => by simp at h
  | x :: l, p, 0, _ => rfl
  | x :: l, p, k + 1, h => by
    have := sm_get l (p + x) k (by simpa using h)
    simpa only [sm, List.getD_cons_succ] using this
theorem sm_bd {l : List Int} (h : OkL l) : ∀ k : Nat, k ≤ l.length → -(1000000000000 * (k : Int)) ≤ (0 :: sm 0 l).getD k 0 ∧ (0 :: sm 0 l).getD k 0 ≤ 1000000000000 * (k : Int)
  | 0, _ => by simp
  | k + 1, hk => by
    have ih := sm_bd h k (by omega)
    have e := sm_get l 0 k (by omega)
    have b := h k (by omega)
    simp only [List.getD_cons_succ]
    rw [e]
    omega
theorem ltake_snoc (t : List Int) (k : Nat) (h : k < t.length) : t.take (k + 1) = t.take k ++ [t.getD k 0] := by
  rw [List.take_succ_eq_append_getElem h]; simp [List.getD, List.getElem?_eq_getElem h]

open Classical in
/-- What DeltasOf tells. -/
noncomputable def dRes (xs : List Int) : Option (List Int) := if xs.length ≤ 40 ∧ OkL xs ∧ OkL (dl 0 xs) then some (dl 0 xs) else none
open Classical in
/-- What SumsOf tells. -/
noncomputable def sRes (xs : List Int) : Option (List Int) := if xs.length ≤ 40 ∧ OkL xs ∧ OkL (sm 0 xs) then some (sm 0 xs) else none
theorem dRes_len (xs : List Int) : ((dRes xs).getD []).length ≤ 40 := by
  unfold dRes; split
  · rename_i h; simp [dl_len, h.1]
  · simp
theorem sRes_len (xs : List Int) : ((sRes xs).getD []).length ≤ 40 := by
  unfold sRes; split
  · rename_i h; simp [sm_len, h.1]
  · simp
theorem okL_of {xs : List Int} {B : Int} (hB : B ≤ 1000000000000) (h : ∀ j, j < xs.length → -B ≤ xs.getD j 0 ∧ xs.getD j 0 ≤ B) : OkL xs := fun j hj => by
  have := h j hj; omega
theorem okL_take {xs : List Int} (h : OkL xs) (k : Nat) : OkL (xs.take k) := fun j hj => by
  have h1 : j < xs.length := by simp at hj; omega
  have h2 : j < k := by simp at hj; omega
  have := h j h1
  simpa [List.getD, h2] using this

/-! Samples -/
def okS (p : Int × Int) : Prop := 0 ≤ p.1 ∧ p.1 ≤ 1000000000 ∧ -1000000000 ≤ p.2 ∧ p.2 ≤ 1000000000
def GoodS (l : List (Int × Int)) : Prop := l.length ≤ 40 ∧ ∀ j, j < l.length → okS (l.getD j (0, 0)) ∧ (0 < j → (l.getD (j - 1) (0, 0)).1 < (l.getD j (0, 0)).1)
def ats (l : List (Int × Int)) : List Int := l.map (·.1)
def vals (l : List (Int × Int)) : List Int := l.map (·.2)
theorem ats_len (l : List (Int × Int)) : (ats l).length = l.length := by simp [ats]
theorem vals_len (l : List (Int × Int)) : (vals l).length = l.length := by simp [vals]
theorem ats_get (l : List (Int × Int)) (j : Nat) : (ats l).getD j 0 = (l.getD j (0, 0)).1 := by
  simp only [ats, List.getD, List.getElem?_map]; cases l[j]? <;> rfl
theorem vals_get (l : List (Int × Int)) (j : Nat) : (vals l).getD j 0 = (l.getD j (0, 0)).2 := by
  simp only [vals, List.getD, List.getElem?_map]; cases l[j]? <;> rfl

/-- Of numbers within B all differences are within 2 B. -/
theorem dl_bd {xs : List Int} {B : Int} (hB : 0 ≤ B) (h : ∀ j, j < xs.length → -B ≤ xs.getD j 0 ∧ xs.getD j 0 ≤ B) : ∀ j, j < (dl 0 xs).length → -(2 * B) ≤ (dl 0 xs).getD j 0 ∧ (dl 0 xs).getD j 0 ≤ 2 * B := fun j hj => by
  rw [dl_len] at hj
  rw [dl_get xs 0 j hj]
  have h1 := h j hj
  cases j with
  | zero => simp at *; omega
  | succ j =>
    have h2 := h j (by omega)
    rw [List.getD_cons_succ]
    omega
theorem good_ats {l : List (Int × Int)} (h : GoodS l) : ∀ j, j < (ats l).length → -1000000000 ≤ (ats l).getD j 0 ∧ (ats l).getD j 0 ≤ 1000000000 := fun j hj => by
  rw [ats_len] at hj
  have := (h.2 j hj).1
  unfold okS at this
  rw [ats_get]; omega
theorem good_vals {l : List (Int × Int)} (h : GoodS l) : ∀ j, j < (vals l).length → -1000000000 ≤ (vals l).getD j 0 ∧ (vals l).getD j 0 ≤ 1000000000 := fun j hj => by
  rw [vals_len] at hj
  have := (h.2 j hj).1
  unfold okS at this
  rw [vals_get]; omega
theorem okL_ats {l : List (Int × Int)} (h : GoodS l) : OkL (ats l) := okL_of (by omega) (good_ats h)
theorem okL_vals {l : List (Int × Int)} (h : GoodS l) : OkL (vals l) := okL_of (by omega) (good_vals h)
theorem okL_steps {l : List (Int × Int)} (h : GoodS l) : OkL (dl 0 (ats l)) := okL_of (by omega) (dl_bd (by omega) (good_ats h))
theorem okL_bends {l : List (Int × Int)} (h : GoodS l) : OkL (dl 0 (dl 0 (ats l))) := okL_of (by omega) (dl_bd (by omega) (dl_bd (by omega) (good_ats h)))
theorem okL_changes {l : List (Int × Int)} (h : GoodS l) : OkL (dl 0 (vals l)) := okL_of (by omega) (dl_bd (by omega) (good_vals h))
theorem dRes_ats {l : List (Int × Int)} (h : GoodS l) : dRes (ats l) = some (dl 0 (ats l)) := by
  unfold dRes; rw [if_pos ⟨by rw [ats_len]; exact h.1, okL_ats h, okL_steps h⟩]
theorem dRes_steps {l : List (Int × Int)} (h : GoodS l) : dRes (dl 0 (ats l)) = some (dl 0 (dl 0 (ats l))) := by
  unfold dRes; rw [if_pos ⟨by rw [dl_len, ats_len]; exact h.1, okL_steps h, okL_bends h⟩]
theorem dRes_vals {l : List (Int × Int)} (h : GoodS l) : dRes (vals l) = some (dl 0 (vals l)) := by
  unfold dRes; rw [if_pos ⟨by rw [vals_len]; exact h.1, okL_vals h, okL_changes h⟩]

/-- Two lists, one number of each in turn. -/
def inter : List Int → List Int → List Int
  | x :: l, y :: m => x :: y :: inter l m
  | _, _ => []
theorem inter_len : ∀ (l m : List Int), l.length = m.length → (inter l m).length = 2 * l.length
  | [], _, _ => by simp [inter]
  | x :: l, [], h => by simp at h
  | x :: l, y :: m, h => by
    have := inter_len l m (by simpa using h)
    simp [inter, this]; omega
theorem inter_take : ∀ (l m : List Int) (k : Nat), l.length = m.length → k < l.length → inter (l.take (k + 1)) (m.take (k + 1)) = inter (l.take k) (m.take k) ++ [l.getD k 0, m.getD k 0]
  | [], _, _, _, h => by simp at h
  | x :: l, [], _, h, _ => by simp at h
  | x :: l, y :: m, 0, _, _ => by simp [inter]
  | x :: l, y :: m, k + 1, h, hk => by
    have := inter_take l m k (by simpa using h) (by simpa using hk)
    simp only [List.take_succ_cons, inter, this, List.getD_cons_succ, List.cons_append]
theorem okL_cons {x : Int} {l : List Int} (h1 : -1000000000000 ≤ x ∧ x ≤ 1000000000000) (h : OkL l) : OkL (x :: l) := fun j hj => by
  cases j with
  | zero => exact h1
  | succ j => exact h j (by simpa using hj)
theorem okL_tail {x : Int} {l : List Int} (h : OkL (x :: l)) : OkL l := fun j hj => h (j + 1) (by simpa using hj)
theorem okL_nil : OkL [] := fun j hj => by simp at hj
theorem okL_inter : ∀ {l m : List Int}, OkL l → OkL m → OkL (inter l m)
  | [], _, _, _ => by simpa [inter] using okL_nil
  | x :: l, [], _, _ => by simpa [inter] using okL_nil
  | x :: l, y :: m, h1, h2 => by
    simp only [inter]
    exact okL_cons (h1 0 (by simp)) (okL_cons (h2 0 (by simp)) (okL_inter (okL_tail h1) (okL_tail h2)))

/-- The numbers of a chunk: how many samples, then a bend and a change for each. -/
def nums (l : List (Int × Int)) : List Int := (l.length : Int) :: inter (dl 0 (dl 0 (ats l))) (dl 0 (vals l))
theorem nums_len (l : List (Int × Int)) : (nums l).length = 1 + 2 * l.length := by
  simp only [nums, List.length_cons]
  rw [inter_len _ _ (by simp [dl_len, ats_len, vals_len])]
  simp [dl_len, ats_len]; omega
theorem okL_nums {l : List (Int × Int)} (h : GoodS l) : OkL (nums l) :=
  okL_cons (by have := h.1; omega) (okL_inter (okL_bends h) (okL_changes h))

/-! Back -/
def ev : List Int → List Int
  | x :: _ :: l => x :: ev l
  | _ => []
def od : List Int → List Int
  | _ :: y :: l => y :: od l
  | _ => []
theorem ev_inter : ∀ (l m : List Int), l.length = m.length → ev (inter l m) = l ∧ od (inter l m) = m
  | [], [], _ => ⟨rfl, rfl⟩
  | [], y :: m, h => by simp at h
  | x :: l, [], h => by simp at h
  | x :: l, y :: m, h => by
    have := ev_inter l m (by simpa using h)
    simp only [inter, ev, od, this.1, this.2, and_self]
theorem inter_ev : ∀ (n : Nat) (r : List Int), r.length = 2 * n → inter (ev r) (od r) = r ∧ (ev r).length = n ∧ (od r).length = n
  | 0, [], _ => ⟨rfl, rfl, rfl⟩
  | 0, x :: r, h => by simp at h
  | n + 1, [], h => by simp at h
  | n + 1, [x], h => by simp at h; omega
  | n + 1, x :: y :: r, h => by
    have := inter_ev n r (by simp at h; omega)
    refine ⟨by simp only [ev, od, inter, this.1], by simp [ev, this.2.1], by simp [od, this.2.2]⟩
theorem ev_get : ∀ (n : Nat) (r : List Int), r.length = 2 * n → ∀ k, k < n → (ev r).getD k 0 = r.getD (2 * k) 0 ∧ (od r).getD k 0 = r.getD (2 * k + 1) 0
  | 0, _, _, k, hk => by omega
  | n + 1, [], h, k, hk => by simp at h
  | n + 1, [x], h, k, hk => by simp at h; omega
  | n + 1, x :: y :: r, h, 0, hk => ⟨rfl, rfl⟩
  | n + 1, x :: y :: r, h, k + 1, hk => by
    have := ev_get n r (by simp at h; omega) k (by omega)
    have e1 : 2 * (k + 1) = 2 * k + 1 + 1 := by omega
    rw [e1]
    simpa only [ev, od, List.getD_cons_succ] using this
theorem okL_ev : ∀ (n : Nat) {r : List Int}, r.length = 2 * n → OkL r → OkL (ev r) ∧ OkL (od r) := fun n r h hr => by
  have hl := inter_ev n r h
  have hg := ev_get n r h
  constructor
  · intro j hj
    rw [hl.2.1] at hj
    rw [(hg j hj).1]
    exact hr _ (by omega)
  · intro j hj
    rw [hl.2.2] at hj
    rw [(hg j hj).2]
    exact hr _ (by omega)

/-- The samples that bends and changes tell. -/
def unS (bs cs : List Int) : List (Int × Int) := (sm 0 (sm 0 bs)).zip (sm 0 cs)
theorem unS_len {bs cs : List Int} (h : bs.length = cs.length) : (unS bs cs).length = bs.length := by
  simp [unS, sm_len, h]
theorem map_zip : ∀ (l m : List Int), l.length = m.length → (l.zip m).map (·.1) = l ∧ (l.zip m).map (·.2) = m
  | [], [], _ => ⟨rfl, rfl⟩
  | [], y :: m, h => by simp at h
  | x :: l, [], h => by simp at h
  | x :: l, y :: m, h => by
    have := map_zip l m (by simpa using h)
    simp only [List.zip_cons_cons, List.map_cons, this.1, this.2, and_self]
theorem unS_ats {bs cs : List Int} (h : bs.length = cs.length) : ats (unS bs cs) = sm 0 (sm 0 bs) := (map_zip _ _ (by simp [sm_len, h])).1
theorem unS_vals {bs cs : List Int} (h : bs.length = cs.length) : vals (unS bs cs) = sm 0 cs := (map_zip _ _ (by simp [sm_len, h])).2
theorem zip_ats : ∀ (l : List (Int × Int)), (ats l).zip (vals l) = l
  | [] => rfl
  | (a, b) :: l => by
    have := zip_ats l
    simp only [ats, vals] at this
    simp [ats, vals, this]
theorem unS_back (l : List (Int × Int)) : unS (dl 0 (dl 0 (ats l))) (dl 0 (vals l)) = l := by
  simp only [unS, sm_dl, zip_ats]
theorem nums_unS {n : Nat} {bs cs : List Int} (h1 : bs.length = n) (h2 : cs.length = n) : nums (unS bs cs) = (n : Int) :: inter bs cs := by
  have h : bs.length = cs.length := by omega
  simp only [nums, unS_ats h, unS_vals h, dl_sm, unS_len h, h1]
/-- Where the samples that are told are good all sums on the way are within their bounds. -/
theorem good_sums {bs cs : List Int} (h : bs.length = cs.length) (hg : GoodS (unS bs cs)) : OkL (sm 0 bs) ∧ OkL (sm 0 (sm 0 bs)) ∧ OkL (sm 0 cs) := by
  have h1 := okL_ats hg
  have h2 := okL_steps hg
  have h3 := okL_vals hg
  rw [unS_ats h] at h1 h2
  rw [unS_vals h] at h3
  rw [dl_sm] at h2
  exact ⟨h2, h1, h3⟩

open Classical in
/-- The samples of bends and changes in turn. -/
noncomputable def ofPairs (r : List Int) : Option (List (Int × Int)) := if GoodS (unS (ev r) (od r)) then some (unS (ev r) (od r)) else none
open Classical in
/-- The samples of a chunk's numbers. -/
noncomputable def ofNums : List Int → Option (List (Int × Int))
  | [] => none
  | m :: r => if (r.length : Int) = 2 * m ∧ m ≤ 40 ∧ GoodS (unS (ev r) (od r)) then some (unS (ev r) (od r)) else none
/-- The samples of a text. -/
noncomputable def dcRes (t : List Int) : Option (List (Int × Int)) := (gall t).bind ofNums

theorem okL_mem' {xs : List Int} (h : OkL xs) : ∀ x ∈ xs, -1000000000000 ≤ x ∧ x ≤ 1000000000000 := by
  intro x hx
  obtain ⟨i, hi, rfl⟩ := List.mem_iff_getElem.1 hx
  have := h i hi
  simpa [List.getD, List.getElem?_eq_getElem hi] using this
theorem okL_of_mem {xs : List Int} (h : ∀ x ∈ xs, -1000000000000 ≤ x ∧ x ≤ 1000000000000) : OkL xs := fun j hj => by
  have := h xs[j] (List.getElem_mem hj)
  simpa [List.getD, List.getElem?_eq_getElem hj] using this
theorem gall_cat' : ∀ (xs : List Int), (∀ x ∈ xs, -1000000000000 ≤ x ∧ x ≤ 1000000000000) → gall (cat xs) = some xs
  | [], _ => rfl
  | n :: l, h => by
    have hn := h n (by simp)
    have hz := gv_vd (zig n) (cat l) (zig_lo n) (zig_hi n hn.1 hn.2)
    have hp : 0 < (vd (zig n) ++ cat l).length := by have : 1 ≤ (vd (zig n)).length := vdf_pos 5 (zig n); simp; omega
    show gall (vd (zig n) ++ cat l) = _
    rw [gall_some hp hz, List.drop_left, gall_cat' l (fun x hx => h x (by simp [hx])), val_vd _ (zig_lo n) (zig_hi n hn.1 hn.2), zag_zig]
    rfl
/-- What is read of a text is written the same. -/
theorem cat_gall : ∀ (n : Nat) (t xs : List Int), t.length ≤ n → (∀ x ∈ t, 0 ≤ x ∧ x < 256) → gall t = some xs → cat xs = t ∧ ∀ x ∈ xs, -1000000000000 ≤ x ∧ x ≤ 1000000000000
  | _, [], xs, _, _, h => by
    rw [gall_nil] at h
    simp at h
    subst h
    exact ⟨rfl, by simp⟩
  | 0, x :: r, _, h, _, _ => by simp at h
  | n + 1, x :: r, xs, hn, hb, h => by
    have h0 : 0 < (x :: r).length := by simp
    cases hv : gv (x :: r) with
    | none => rw [gall_none h0 hv] at h; simp at h
    | some l =>
      have hl := gv_some hv
      have hf := gv_form hb hv
      have ht := gv_take hv
      have hvn := val_nonneg l
      rw [gall_some h0 hv] at h
      cases hg : gall ((x :: r).drop l.length) with
      | none => rw [hg] at h; simp at h
      | some ys =>
        rw [hg] at h
        simp at h
        subst h
        have ih := cat_gall n ((x :: r).drop l.length) ys (by simp at *; omega) (fun y hy => hb y (List.mem_of_mem_drop hy)) hg
        refine ⟨?_, ?_⟩
        · simp only [cat]
          rw [zig_zag _ hvn, hf.1, ih.1]
          conv => lhs; lhs; rw [ht]
          exact List.take_append_drop _ _
        · intro y hy
          simp only [List.mem_cons] at hy
          rcases hy with rfl | hy
          · exact zag_lo _ hvn hf.2
          · exact ih.2 y hy
theorem ofNums_some {xs : List Int} {l : List (Int × Int)} (h : ofNums xs = some l) : GoodS l ∧ nums l = xs := by
  cases xs with
  | nil => simp [ofNums] at h
  | cons m r =>
    simp only [ofNums] at h
    split at h
    · rename_i hc
      simp at h
      subst h
      obtain ⟨n, hn⟩ : ∃ n : Nat, m = (n : Int) := ⟨m.toNat, by omega⟩
      subst hn
      have hr : r.length = 2 * n := by omega
      have hl := inter_ev n r hr
      refine ⟨hc.2.2, ?_⟩
      rw [nums_unS hl.2.1 hl.2.2, hl.1]
    · simp at h
theorem ofNums_nums {l : List (Int × Int)} (h : GoodS l) : ofNums (nums l) = some l := by
  have hi := inter_len (dl 0 (dl 0 (ats l))) (dl 0 (vals l)) (by simp [dl_len, ats_len, vals_len])
  have he := ev_inter (dl 0 (dl 0 (ats l))) (dl 0 (vals l)) (by simp [dl_len, ats_len, vals_len])
  simp only [dl_len, ats_len] at hi
  have h40 := h.1
  simp only [nums, ofNums]
  rw [he.1, he.2, unS_back, if_pos ⟨by omega, by omega, h⟩]
theorem dcRes_some {t : List Int} {l : List (Int × Int)} (hb : ∀ x ∈ t, 0 ≤ x ∧ x < 256) (h : dcRes t = some l) : GoodS l ∧ cat (nums l) = t := by
  unfold dcRes at h
  cases hg : gall t with
  | none => rw [hg] at h; simp at h
  | some xs =>
    rw [hg] at h
    have h2 := ofNums_some h
    exact ⟨h2.1, by rw [h2.2]; exact (cat_gall t.length t xs (Nat.le_refl _) hb hg).1⟩
theorem dcRes_cat {l : List (Int × Int)} (h : GoodS l) : dcRes (cat (nums l)) = some l := by
  unfold dcRes
  rw [gall_cat' _ (okL_mem' (okL_nums h))]
  exact ofNums_nums h
theorem dcRes_len {t : List Int} (hb : ∀ x ∈ t, 0 ≤ x ∧ x < 256) : ((dcRes t).getD []).length ≤ 40 := by
  cases h : dcRes t with
  | none => simp
  | some l => exact (dcRes_some hb h).1.1
theorem cat_ge : ∀ (xs : List Int), xs.length ≤ (cat xs).length
  | [] => by simp [cat]
  | x :: l => by
    have h1 : 1 ≤ (vd (zig x)).length := vdf_pos 5 (zig x)
    have := cat_ge l
    simp only [cat, List.length_append, List.length_cons]
    omega
/-- No text of more than 486 bytes is a chunk's. -/
theorem dcRes_long {t : List Int} (hb : ∀ x ∈ t, 0 ≤ x ∧ x < 256) (h : 486 < t.length) : dcRes t = none := by
  cases hd : dcRes t with
  | none => rfl
  | some l =>
    obtain ⟨h1, h2⟩ := dcRes_some hb hd
    have h3 := cat_len (nums l)
    have h4 := nums_len l
    have h5 := h1.1
    rw [h2] at h3
    omega
end Go.Proofs.Yticgejaaoamhmap.L1
