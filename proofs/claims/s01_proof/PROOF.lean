import PyProof.Rows.All
import Wide.All
import OpenK.AllK
import Wide.FinOn
import KE.OsGo
import KE.OsEnd
import KE.OsArgs
import PySem.Challenge.RW_twoflows_s01_wf_flow
set_option Elab.async false
namespace My
/-- the lesser one of both, as the program reckons it -/
def downI (w d : Int) : Int := if Int.fdiv d 8 < Int.fdiv w 4 then Int.fdiv d 8 else Int.fdiv w 4
/-- what one pair gives, over ints as the program reckons -/
def flowI (g w h v : Int) : Int :=
  if h + v < g + w then downI w (g + w - (h + v))
  else if g + w < h + v then -(downI v (h + v - (g + w)))
  else 0
theorem flowI_eq {g w h v : Int} (hg : 0 ≤ g) (hw : 0 ≤ w) (hh : 0 ≤ h) (hv : 0 ≤ v) :
    flowI g w h v = Kp154.flow ⟨g.toNat, w.toNat⟩ ⟨h.toNat, v.toNat⟩ := by
  obtain ⟨g, rfl⟩ := Int.eq_ofNat_of_zero_le hg
  obtain ⟨w, rfl⟩ := Int.eq_ofNat_of_zero_le hw
  obtain ⟨h, rfl⟩ := Int.eq_ofNat_of_zero_le hh
  obtain ⟨v, rfl⟩ := Int.eq_ofNat_of_zero_le hv
  unfold flowI downI Kp154.flow Kp154.level
  simp only [Int.toNat_natCast, Int.fdiv_eq_ediv_of_nonneg _ (show (0 : Int) ≤ 4 by decide), Int.fdiv_eq_ediv_of_nonneg _ (show (0 : Int) ≤ 8 by decide)]
  by_cases c : h + v < g + w
  · rw [if_pos (by omega), if_pos c]; split <;> omega
  · rw [if_neg (by omega), if_neg c]
    by_cases d : g + w < h + v
    · rw [if_pos (by omega)]; split <;> omega
    · rw [if_neg (by omega)]; omega
theorem flow_a {g w h v : Int} (c : h + v < g + w) : flowI g w h v = downI w (g + w - (h + v)) := if_pos c
theorem flow_b {g w h v : Int} (c : g + w < h + v) : flowI g w h v = -(downI v (h + v - (g + w))) := by
  unfold flowI; rw [if_neg (by omega), if_pos c]
theorem flow_0 {g w h v : Int} (c : ¬ h + v < g + w) (d : ¬ g + w < h + v) : flowI g w h v = 0 := by
  unfold flowI; rw [if_neg c, if_neg d]
theorem getD_nats (l : List Int) (i : Nat) : (Kp154Neutral.nats l).getD i 0 = (l.getD i 0).toNat := by
  unfold Kp154Neutral.nats
  simp only [List.getD_eq_getElem?_getD, List.getElem?_map]
  cases l[i]? <;> rfl
theorem getD_nonneg {l : List Int} (h : ∀ x ∈ l, 0 ≤ x) (i : Nat) : 0 ≤ l.getD i 0 := by
  rw [List.getD_eq_getElem?_getD]
  cases e : l[i]? with
  | none => exact Int.le_refl 0
  | some x => exact h x (List.mem_of_getElem? e)
def cell (p q r s : List Int) (k : Nat) : Int := flowI (p.getD k 0) (q.getD k 0) (r.getD k 0) (s.getD k 0)
structure Told (p q r s : List Int) (m : Nat) (told : List Int) : Prop where
  eq : told = [1, (p.length : Int)] ++ (List.range m).map (cell p q r s)
theorem Told.start (p q r s : List Int) {n : Int} (hn : n = (p.length : Int)) : Told p q r s 0 [1, n] := ⟨by rw [hn]; rfl⟩
theorem Told.turn {p q r s told : List Int} {m : Nat} (T : Told p q r s m told) {x : Int} (hx : x = cell p q r s m) : Told p q r s (m + 1) (told ++ [x]) :=
  ⟨by rw [T.eq, hx, List.range_succ, List.map_append, List.append_assoc]; rfl⟩
theorem Told.len {p q r s told : List Int} {m : Nat} (T : Told p q r s m told) : told.length = m + 2 := by
  rw [T.eq]
  simp only [List.length_append, List.length_cons, List.length_nil, List.length_map, List.length_range]
  omega
/-- the loop's word: start, turn -/
theorem start {p q r s : List Int} {n : Int} (hn : n = (p.length : Int)) : ([1, n] : List Int).length = ([] : List Int).length + 2 ∧ Told p q r s ([] : List Int).length [1, n] := ⟨rfl, Told.start p q r s hn⟩
theorem turn {p q r s pre told : List Int} {k : Int} (T : Told p q r s pre.length told) (hk : k = 0 + (pre.length : Int)) (hl : told.length = pre.length + 2) :
    (told ++ [flowI (p.getD k.toNat 0) (q.getD k.toNat 0) (r.getD k.toNat 0) (s.getD k.toNat 0)]).length = (pre ++ [k]).length + 2 ∧
    Told p q r s (pre ++ [k]).length (told ++ [flowI (p.getD k.toNat 0) (q.getD k.toNat 0) (r.getD k.toNat 0) (s.getD k.toNat 0)]) := by
  have e : k.toNat = pre.length := by omega
  have l : (pre ++ [k]).length = pre.length + 1 := by simp
  refine ⟨by simp only [List.length_append, List.length_singleton]; omega, ?_⟩
  rw [l, e]
  exact T.turn rfl
def low (l : List Int) : Prop := ∀ x ∈ l, x ≤ 1073741824
theorem all_nats {l : List Int} : ((Kp154Neutral.nats l).all fun x => decide (x ≤ Kp154.HIGH)) = true ↔ low l := by
  unfold Kp154Neutral.nats low Kp154.HIGH
  simp only [List.all_eq_true, List.mem_map, decide_eq_true_eq]
  constructor
  · intro h x hx
    have := h _ ⟨x, hx, rfl⟩
    omega
  · rintro h _ ⟨x, hx, rfl⟩
    have := h x hx
    omega
theorem right_iff {p q r s : List Int} : Kp154.right ⟨Kp154Neutral.nats p, Kp154Neutral.nats q, Kp154Neutral.nats r, Kp154Neutral.nats s⟩ = true ↔ low p ∧ low q ∧ low r ∧ low s := by
  unfold Kp154.right
  simp only [List.all_append, Bool.and_eq_true, all_nats]
  constructor
  · rintro ⟨⟨⟨a, b⟩, c⟩, d⟩; exact ⟨a, b, c, d⟩
  · rintro ⟨a, b, c, d⟩; exact ⟨⟨⟨a, b⟩, c⟩, d⟩
theorem spec_eq (p q r s : List Int) : PyKp154.wf_flow p q r s = Kp154Neutral.told (Kp154.answer (.flow (if 1 ≤ p.length ∧ p.length ≤ 4096 then some ⟨Kp154Neutral.nats p, Kp154Neutral.nats q, Kp154Neutral.nats r, Kp154Neutral.nats s⟩ else none) p.length)) := rfl
/-- refused: not as many as may be -/
theorem spec_count {p q r s : List Int} (h : ¬ (1 ≤ p.length ∧ p.length ≤ 4096)) : PyKp154.wf_flow p q r s = [0, -22] := by
  rw [spec_eq, if_neg h]; rfl
/-- refused: a number too high -/
theorem spec_high {p q r s : List Int} (h : ¬ (low p ∧ low q ∧ low r ∧ low s)) : PyKp154.wf_flow p q r s = [0, -22] := by
  by_cases c : 1 ≤ p.length ∧ p.length ≤ 4096
  · rw [spec_eq, if_pos c]
    have e : Kp154.right ⟨Kp154Neutral.nats p, Kp154Neutral.nats q, Kp154Neutral.nats r, Kp154Neutral.nats s⟩ = false := by
      rw [← Bool.not_eq_true, right_iff]; exact h
    unfold Kp154.answer
    simp only [e, if_true]
    rfl
  · exact spec_count c
theorem spec_told {p q r s told : List Int} (c : 1 ≤ p.length ∧ p.length ≤ 4096) (h : low p ∧ low q ∧ low r ∧ low s)
    (np : ∀ x ∈ p, 0 ≤ x) (nq : ∀ x ∈ q, 0 ≤ x) (nr : ∀ x ∈ r, 0 ≤ x) (ns : ∀ x ∈ s, 0 ≤ x) (T : Told p q r s p.length told) : told = PyKp154.wf_flow p q r s := by
  rw [spec_eq, if_pos c, T.eq]
  have e : Kp154.right ⟨Kp154Neutral.nats p, Kp154Neutral.nats q, Kp154Neutral.nats r, Kp154Neutral.nats s⟩ = true := right_iff.mpr h
  unfold Kp154.answer
  simp only [e, Bool.true_eq_false, if_false, Kp154Neutral.told, List.length_map, List.length_range]
  congr 1
  refine List.map_congr_left fun i _ => ?_
  rw [getD_nats, getD_nats, getD_nats, getD_nats]
  exact flowI_eq (getD_nonneg np i) (getD_nonneg nq i) (getD_nonneg nr i) (getD_nonneg ns i)
theorem high_at {l : List Int} {x : Int} (hx : x ∈ l) (h : 1073741824 < x) : ¬ low l := fun a => by have := a x hx; omega
theorem nat_nonneg {l : List Int} (h : (l.all fun z => Kp154Neutral.natural z 32) = true) : ∀ x ∈ l, 0 ≤ x := by
  intro x hx
  have := List.all_eq_true.mp h x hx
  unfold Kp154Neutral.natural at this
  simp only [Bool.and_eq_true, decide_eq_true_eq] at this
  exact this.1
structure Good (p q r s : List Int) : Prop where
  lq : q.length = p.length
  lr : r.length = p.length
  ls : s.length = p.length
  np : ∀ x ∈ p, 0 ≤ x
  nq : ∀ x ∈ q, 0 ≤ x
  nr : ∀ x ∈ r, 0 ≤ x
  ns : ∀ x ∈ s, 0 ≤ x
theorem good_of {p q r s : List Int} (h : PyKp154.wf_flow_asked p q r s = true) : Good p q r s := by
  have e : PyKp154.wf_flow_asked p q r s = ((p.all fun z => Kp154Neutral.natural z 32) && ((q.all fun z => Kp154Neutral.natural z 32) && ((r.all fun z => Kp154Neutral.natural z 32) && ((s.all fun z => Kp154Neutral.natural z 32) && (decide (q.length = p.length) && (decide (r.length = p.length) && decide (s.length = p.length))))))) := rfl
  rw [e] at h
  simp only [Bool.and_eq_true, decide_eq_true_eq] at h
  obtain ⟨a, b, c, d, l1, l2, l3⟩ := h
  exact ⟨l1, l2, l3, nat_nonneg a, nat_nonneg b, nat_nonneg c, nat_nonneg d⟩
end My
open PySem PySem.W PyProof.Rows
namespace My
theorem said : PySem.Challenge.rw_twoflows_s01_wf_flow.wellSaid = true := by decide +kernel
theorem facts {p q r s : List Int} (h : PySem.Challenge.rw_twoflows_s01_wf_flow.pre [ofPy (.list (p.map PyData.int)), ofPy (.list (q.map PyData.int)), ofPy (.list (r.map PyData.int)), ofPy (.list (s.map PyData.int))] = true) : Good p q r s := by
  obtain ⟨a, w, k, e⟩ := os_pre said h
  obtain ⟨p', q', r', s', u⟩ := a
  have e1 := os_j_ints (List.cons.inj e).1
  have e2 := os_j_ints (List.cons.inj (List.cons.inj e).2).1
  have e3 := os_j_ints (List.cons.inj (List.cons.inj (List.cons.inj e).2).2).1
  have e4 := os_j_ints (List.cons.inj (List.cons.inj (List.cons.inj (List.cons.inj e).2).2).2).1
  subst e1 e2 e3 e4
  exact good_of k
end My
namespace My
theorem turnX {p q r s pre told : List Int} {k x : Int} (T : Told p q r s pre.length told) (hk : k = 0 + (pre.length : Int)) (hl : told.length = pre.length + 2)
    (hx : x = flowI (p.getD k.toNat 0) (q.getD k.toNat 0) (r.getD k.toNat 0) (s.getD k.toNat 0)) :
    (told ++ [x]).length = (pre ++ [k]).length + 2 ∧ Told p q r s (pre ++ [k]).length (told ++ [x]) := by
  subst hx
  exact turn T hk hl
/-- the four rows, to be named in the walk -/
theorem names {p q r s : List Int} (_ : Good p q r s) : ∃ P Q R S, P = p ∧ Q = q ∧ R = r ∧ S = s := ⟨p, q, r, s, rfl, rfl, rfl, rfl⟩
abbrev Row := PySem.Challenge.rw_twoflows_s01_wf_flow
abbrev given (p q r s : List Int) : List WData := [ofPy (.list (p.map PyData.int)), ofPy (.list (q.map PyData.int)), ofPy (.list (r.map PyData.int)), ofPy (.list (s.map PyData.int))]
theorem shut {p q r s ys : List Int} (h : Row.pre (given p q r s) = true) (y : ys = PyKp154.wf_flow p q r s) : Row.post (given p q r s) (WData.list (ys.map WData.int)) = true := by
  obtain ⟨a, w, k, e⟩ := os_pre said h
  obtain ⟨p', q', r', s', u⟩ := a
  have e1 := os_j_ints (List.cons.inj e).1
  have e2 := os_j_ints (List.cons.inj (List.cons.inj e).2).1
  have e3 := os_j_ints (List.cons.inj (List.cons.inj (List.cons.inj e).2).2).1
  have e4 := os_j_ints (List.cons.inj (List.cons.inj (List.cons.inj (List.cons.inj e).2).2).2).1
  subst e1 e2 e3 e4
  rw [e]
  refine os_shut said w ?_
  rw [y]
  rfl
theorem refused {p q r s : List Int} (h : Row.pre (given p q r s) = true) (y : PyKp154.wf_flow p q r s = [0, -22]) :
    Row.post (given p q r s) (ofPy (.list [PyData.int 0, PyData.int (-22)])) = true := by
  have e : ofPy (.list [PyData.int 0, PyData.int (-22)]) = WData.list (([0, -22] : List Int).map WData.int) := os_list rfl
  rw [e]
  exact shut h y.symm
/-- an end: how many -/
theorem end_count {p q r s : List Int} (h : Row.pre (given p q r s) = true) (c : ¬ (1 ≤ p.length ∧ p.length ≤ 4096)) :
    Row.post (given p q r s) (ofPy (.list [PyData.int 0, PyData.int (-22)])) = true := refused h (spec_count c)
/-- an end: a number too high, in each row -/
theorem end_p {p q r s : List Int} {x : Int} (h : Row.pre (given p q r s) = true) (hx : x ∈ p) (c : 1073741824 < x) :
    Row.post (given p q r s) (ofPy (.list [PyData.int 0, PyData.int (-22)])) = true := refused h (spec_high fun a => high_at hx c a.1)
theorem end_q {p q r s : List Int} {x : Int} (h : Row.pre (given p q r s) = true) (hx : x ∈ q) (c : 1073741824 < x) :
    Row.post (given p q r s) (ofPy (.list [PyData.int 0, PyData.int (-22)])) = true := refused h (spec_high fun a => high_at hx c a.2.1)
theorem end_r {p q r s : List Int} {x : Int} (h : Row.pre (given p q r s) = true) (hx : x ∈ r) (c : 1073741824 < x) :
    Row.post (given p q r s) (ofPy (.list [PyData.int 0, PyData.int (-22)])) = true := refused h (spec_high fun a => high_at hx c a.2.2.1)
theorem end_s {p q r s : List Int} {x : Int} (h : Row.pre (given p q r s) = true) (hx : x ∈ s) (c : 1073741824 < x) :
    Row.post (given p q r s) (ofPy (.list [PyData.int 0, PyData.int (-22)])) = true := refused h (spec_high fun a => high_at hx c a.2.2.2)
/-- an end: the row of what flows -/
theorem end_told {p q r s told : List Int} {m : Nat} (h : Row.pre (given p q r s) = true) (T : Told p q r s m told) (hm : m = p.length) (c : 1 ≤ p.length ∧ p.length ≤ 4096)
    (lp : ∀ v, v ∈ p → v ≤ 1073741824) (lq : ∀ v, v ∈ q → v ≤ 1073741824) (lr : ∀ v, v ∈ r → v ≤ 1073741824) (ls : ∀ v, v ∈ s → v ≤ 1073741824) :
    Row.post (given p q r s) (WData.list (ofPys (told.map PyData.int))) = true := by
  subst hm
  have g := facts h
  rw [os_ofPys_ints]
  exact shut h (spec_told c ⟨lp, lq, lr, ls⟩ g.np g.nq g.nr g.ns T)
end My
example : List Int → List Int → List Int → List Int → List Int → List Int → Prop := fun p q r s pre told => told.length = pre.length + 2 ∧ My.Told p q r s pre.length told
set_option maxRecDepth 100000 in
set_option maxHeartbeats 8000000 in
theorem PySem.Challenge.cw_twoflows_s01_wf_flow_holds : PySem.Challenge.rw_twoflows_s01_wf_flow.Holds := by
  -- flow_down by its contract; flow_between is walked in each turn, on its three ways
  k_with "call ref" => k_call_by "flow_down" My.downI
  k_with "state" => ((with_reducible show _ ∧ My.Told _ _ _ _ _ _); first
    | exact My.start (by omega)
    | exact My.turnX (by assumption) (by assumption) (by omega) (by first | exact (My.flow_a (by omega)).symm | exact (My.flow_b (by omega)).symm | exact (My.flow_0 (by omega) (by omega)).symm))
  -- the rows of the request are named gA, wA, gB, wB below, ahead of the walk
  k_with "pyIter ref" => (k_of "i" => k_state (fun pre told => told.length = pre.length + 2 ∧ My.Told gA wA gB wB pre.length told) "told")
  k_with "pyIter ref" => (k_of "number" => k_search (fun pre => ∀ v ∈ pre, v ≤ 1073741824))
  w_on
  k_headS
  case hw => exact ⟨[.list [], .list [], .list [], .list []], by decide +kernel, by decide +kernel⟩
  w_strict (k_goS0; (rename OpenSpec.pre _ _ = true => hP); (have hG := My.facts hP); (obtain ⟨gA, wA, gB, wB, eA, eB, eC, eD⟩ := My.names hG); (subst eA eB eC eD); (have hLq := hG.lq); (have hLr := hG.lr); (have hLs := hG.ls); (all_goals try k_fold); k_steps; (all_goals (try (w_end; sp_is; wrow_close))); (all_goals (try k_data)); all_goals first | sp_left | w_report)
  all_goals first
    | exact My.end_count (by assumption) (by omega)
    | exact My.end_p (by assumption) (by assumption) (by assumption)
    | exact My.end_q (by assumption) (by assumption) (by assumption)
    | exact My.end_r (by assumption) (by assumption) (by assumption)
    | exact My.end_s (by assumption) (by assumption) (by assumption)
    | exact My.end_told (by assumption) (by assumption) (by rw [rangeKs_length]; omega) (by omega) (by assumption) (by assumption) (by assumption) (by assumption)
#print axioms PySem.Challenge.cw_twoflows_s01_wf_flow_holds
