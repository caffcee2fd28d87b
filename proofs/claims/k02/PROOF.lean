import PyProof.Rows.All
import Wide.All
import OpenK.AllK
import Wide.FinOn
import HandS.ForMost
import HandS.Wide
import HandS.IsInst
import HandS.Evl
import HandS.TupAny
import PySem.Challenge.RW_orderflow_k02_covers_matched
set_option Elab.async false
set_option linter.all false
set_option maxRecDepth 100000
set_option maxHeartbeats 4000000
/-! Short words of our own over the hand layer: a def that may be called by its name, with what it promises. -/
namespace Of
open PySem PyProof.Rows L2
theorem ite_yes {c : Bool} {A B : Prop} (h : c = true) (a : A) : if c = true then A else B := by rw [if_pos h]; exact a
theorem ite_no {c : Bool} {A B : Prop} (h : c = false) (b : B) : if c = true then A else B := by rw [h, if_neg Bool.false_ne_true]; exact b
theorem ite_bang {c : Bool} {A B : Prop} (h : if c = true then B else A) : if (!c) = true then A else B := by cases c <;> exact h
theorem str_yes {x y : Str} (h : decide (V.str x = V.str y) = true) : x = y := V.str.inj (of_decide_eq_true h)
theorem str_not {x y : Str} (h : ¬ decide (V.str x = V.str y) = true) : x ≠ y := fun e => h (decide_eq_true (congrArg V.str e))
/-- the module gives none of the built-ins' names another meaning -/
structure Blt (mg : Str → Option Value) : Prop where
  m_len : mg "len" = none
  m_isinstance : mg "isinstance" = none
  m_int : mg "int" = none
  m_bool : mg "bool" = none
  m_str : mg "str" = none
  m_list : mg "list" = none
  m_tuple : mg "tuple" = none
  m_range : mg "range" = none
  m_sum : mg "sum" = none
  m_min : mg "min" = none
  m_max : mg "max" = none
  m_abs : mg "abs" = none
  m_ValueError : mg "ValueError" = none
/-- the def st stands in the written part under its name -/
structure DefAt (K : PySem.W.Frag) (mg : Str → Option Value) (x : Str) (st : Stmt) (ps : List Str) : Prop where
  ex : ∃ f fd, Fun K x x st f fd ∧ mg x = some (.ref f) ∧ Binds K fd ps []
/-- it may be called by its name, at the level k, with the promise sp; what leaves it besides is told by CX -/
structure Cal (P : Program) (w : World) (K : PySem.W.Frag) (mg : Str → Option Value) (base : Heap) (CX : CXT) (k : Nat) (x : Str) (ps : List Str) (sp : Sp) : Prop where
  ex : ∃ f fd, FnOk P w K mg base CX k f fd ps sp ∧ mg x = some (.ref f) ∧ PySem.W.keepIn K (.ref f) = true ∧ Binds K fd ps []
section
variable {P : Program} {w : World} {K : PySem.W.Frag} {mg : Str → Option Value} {base : Heap}
theorem Cal.mono {CX : CXT} {j k : Nat} {x : Str} {ps : List Str} {sp : Sp} (c : Cal P w K mg base CX j x ps sp) (h : j ≤ k) : Cal P w K mg base CX k x ps sp := by
  obtain ⟨f, fd, F, r⟩ := c.ex
  exact ⟨f, fd, F.mono h, r⟩
theorem Cal.imp {CX : CXT} {k : Nat} {x : Str} {ps : List Str} {sp sp' : Sp} (c : Cal P w K mg base CX k x ps sp) (h : ∀ vs H Q E, sp' vs H Q E → sp vs H Q E) : Cal P w K mg base CX k x ps sp' := by
  obtain ⟨f, fd, F, r⟩ := c.ex
  exact ⟨f, fd, F.imp h, r⟩
theorem cal_of {x : Str} {st : Stmt} {N ps : List Str} {k : Nat} {sp : Sp} (D : DefAt K mg x st ps) (S : FnScope N ps (defScope st)) (len : ∀ vs H Q E, sp vs H Q E → vs.length = ps.length)
    (hbody : ∀ (f : Addr) (cdv : Value) (A : Around) (outer : List Env) (s : Shared) (H : Hp) (vs : List V) (Q : VK) (E : XK), Room k (A.deeper (envOfC x (defScope st) s.heap.objs.size f cdv)) → sp vs H Q E →
      ∃ t, PSs (cxOf CX0 P w K mg base N x (defScope st) f cdv A outer s H E).nox (defBody st) t ∧ t { nx := fun _ H' => Q .non H', rt := Q } (start N vs) H) : Cal P w K mg base CX0 (k + 1) x ps sp := by
  obtain ⟨f, fd, F, hm, hb⟩ := D.ex
  exact ⟨f, fd, F.ok S len fun cdv A outer s H vs Q E hr h => hbody f cdv A outer s H vs Q E hr h, hm, F.kp, hb⟩
end
/-- a def of the text from what the top has written of it -/
theorem defAt_mk {h : Heap} {K : PySem.W.Frag} {mg : Str → Option Value} (X : K.In h) (G : h.Ns mainGlobals mg) {x : Str} {st : Stmt} {ps : List Str} {f : Addr} {oc kV doc pm cd ct : Value} {od an : Option Addr} {sl : Array (Option Value)}
    (a : PySem.W.nsIn K mainGlobals x = some (some (.ref f))) (l : K.lookup f = some ⟨oc, od, .func (PySem.W.fnOf x x (defArgs st) (defBody st) (defScope st) .none kV doc pm an cd ct), sl⟩) (c : PySem.W.codeIn K cd x = true) (k : PySem.W.keepIn K (.ref f) = true)
    (h : ∀ (kV doc pm : Value) (an : Option Addr) (cdv ct : Value) (us : List Value), us.length = ps.length → bindArgs (PySem.W.fnOf x x (defArgs st) (defBody st) (defScope st) .none kV doc pm an cdv ct) ⟨us, []⟩ = pure (ps.zip us)) : DefAt K mg x st ps :=
  have F := fun_mk (st := st) l c k
  ⟨f, _, F, PySem.W.mg_of X G a, F.binds h⟩
section
variable {X : Cx} {CX : CXT} {k : Nat} {ps : List Str} {sp : Sp} {E : XK} {x : Str} {p pos : Pos} {e : Expr} {es : List Expr} {t : TA}
theorem pe_cal (c : Cal X.prog X.w X.K X.mg X.base CX k x ps sp) (hr : Room k X.A) (hx : Passes CX X E) (ha : PA X (e :: es) t) (hg : Gl X x := by rfl) (hdb : (x == ("__debug__" : Str)) = false := by decide)
    (he : starEach (e :: es) X.env = (false, eval e X.env) :: starEach es X.env := by rfl) (hpl : (backTo pos (starEach es X.env)).any (·.1) = false := by rfl) :
    PE X (.Call (.Name x p) (e :: es) [] pos) (tCall sp [] E t) := by
  obtain ⟨f, fd, F, hm, hk, hb⟩ := c.ex
  exact pe_call F hr hg hm hk hb .nil hx ha hdb he hpl
end
/-! ### the rules that lean on the written part, K said outright (so that they serve within a comprehension) -/
section
variable {X : Cx}
theorem kx_list (K : PySem.W.Frag) (h : X.K = K := by rfl) : IxR X (rIxL K) := h ▸ ix_list
theorem kx_tup (K : PySem.W.Frag) (h : X.K = K := by rfl) : IxR X (rIxT K) := h ▸ ix_tup
theorem kc_len (K : PySem.W.Frag) (h : X.K = K := by rfl) : CallR X (.builtin "len") (fun xs H Q => ∃ p ys, xs = [.ref p] ∧ (SqL K H p ys ∨ SqT K H p ys) ∧ Q (.int ys.length) H) := h ▸ call_len_seq
theorem kc_list (K : PySem.W.Frag) (h : X.K = K := by rfl) : CallR X (.type "list") (fun xs H Q => ∃ p ys, xs = [.ref p] ∧ (SqL K H p ys ∨ SqT K H p ys) ∧ ∀ l, H l = none → Q (.ref l) (upd H l (.lst ys))) := h ▸ call_list_of
theorem kc_tuple (K : PySem.W.Frag) (h : X.K = K := by rfl) : CallR X (.type "tuple") (fun xs H Q => ∃ p ys, xs = [.ref p] ∧ ((SqL K H p ys ∧ ∀ l, H l = none → Q (.ref l) (upd H l (.tup ys))) ∨ (SqT K H p ys ∧ Q (.ref p) H))) := h ▸ call_tuple_of
theorem kc_isi (K : PySem.W.Frag) (h : X.K = K := by rfl) : CallR X (.builtin "isinstance") (rIsi K) := h ▸ call_isi
theorem kc_sum (K : PySem.W.Frag) (hc : X.calm = true) (h : X.K = K := by rfl) : CallR X (.builtin "sum") (rSum K) := h ▸ cr_sum hc
theorem kc_min (K : PySem.W.Frag) (hc : X.calm = true) (h : X.K = K := by rfl) : CallR X (.builtin "min") (rMin K) := h ▸ cr_min hc
theorem kc_max (K : PySem.W.Frag) (hc : X.calm = true) (h : X.K = K := by rfl) : CallR X (.builtin "max") (rMax K) := h ▸ cr_max hc
theorem ko_in (K : PySem.W.Frag) (h : X.K = K := by rfl) : OpR X (compareOp .In) (rIn K false) := h ▸ op_in_seq
theorem ko_notIn (K : PySem.W.Frag) (h : X.K = K := by rfl) : OpR X (compareOp .NotIn) (rIn K true) := h ▸ op_notIn_seq
theorem ko_eqD (K : PySem.W.Frag) (hu : X.A.units + 64 < cLine) (h : X.K = K := by rfl) : OpR X (compareOp .Eq) (rEqD K) := h ▸ op_eqD hu
theorem ko_neD (K : PySem.W.Frag) (hu : X.A.units + 64 < cLine) (h : X.K = K := by rfl) : OpR X (compareOp .NotEq) (rNeD K) := h ▸ op_neD hu
theorem ks_list (K : PySem.W.Frag) (h : X.K = K := by rfl) : SlR X (rSlL K) := h ▸ sl_list
theorem ks_tup (K : PySem.W.Frag) (h : X.K = K := by rfl) : SlR X (rSlA K) := h ▸ sl_tupA
theorem ki_list (K : PySem.W.Frag) {tg l : Expr} {tl : TE} (hl : PE X l tl) (h : X.K = K := by rfl) : PI X tg l (iList K tl) := h ▸ pi_list hl
theorem ki_tup (K : PySem.W.Frag) {tg l : Expr} {tl : TE} (hl : PE X l tl) (h : X.K = K := by rfl) : PI X tg l (iTup K tl) := h ▸ pi_tup hl
end
end Of

set_option Elab.async false
set_option linter.all false
set_option maxRecDepth 100000
set_option maxHeartbeats 4000000
/-! Data of any depth, lists and their places: what the laws' own helpers lean on. -/
namespace L2
open PySem PyProof.Rows
section
variable {K : PySem.W.Frag} {H H' : Hp} {a : Addr} {xs : List V} {v : V}
theorem same_l (e : Same H H') (h : SqL K H a xs) : SqL K H' a xs := e.seq h
theorem same_rd {u : HO} (e : Same H H') (h : Rd H a u) : Rd H' a u := by
  rcases h with h | ⟨o, h⟩
  · exact .inl (e _ _ h)
  · exact .inr ⟨o, e _ _ h⟩
theorem same_t (e : Same H H') (h : SqT K H a xs) : SqT K H' a xs := by
  rcases h with h | h
  · exact .inl (same_rd e h)
  · exact .inr h
theorem same_new {o : HO} (h : H a = none) : Same H (upd H a o) := fun b u e => by
  rw [upd_ne (ne_of_none e h)]
  exact e
/-- what does not stand in H may change -/
theorem same_mut {F : Hp} {o : HO} (e : Same F H) (h : F a = none) : Same F (upd H a o) := fun b u q => by
  rw [upd_ne (ne_of_none q h)]
  exact e _ _ q
mutual
theorem dp_same (e : Same H H') : ∀ (d : PyData) (v : V), Dp K H v d → Dp K H' v d
  | .none, _, h => by cases h; exact .non
  | .bool b, _, h => by cases h; exact .bl _
  | .int i, _, h => by cases h; exact .int _
  | .str x, _, h => by cases h; exact .str _
  | .list ds, _, h => by
    cases h with
    | lst s r => exact .lst (same_l e s) (dpAll_same e ds _ r)
  | .tuple ds, _, h => by
    cases h with
    | tup s r => exact .tup (same_t e s) (dpAll_same e ds _ r)
  | .dict _, _, h => by cases h
theorem dpAll_same (e : Same H H') : ∀ (ds : List PyData) (vs : List V), DpAll K H vs ds → DpAll K H' vs ds
  | [], _, h => by cases h; exact .nil
  | d :: ds, _, h => by
    cases h with
    | cons h1 h2 => exact .cons (dp_same e d _ h1) (dpAll_same e ds _ h2)
end
theorem Dp.same {d : PyData} (h : Dp K H v d) (e : Same H H') : Dp K H' v d := dp_same e d v h
theorem DpAll.same {ds : List PyData} {vs : List V} (h : DpAll K H vs ds) (e : Same H H') : DpAll K H' vs ds := dpAll_same e ds vs h
theorem DpAll.length : ∀ {vs : List V} {ds : List PyData}, DpAll K H vs ds → vs.length = ds.length
  | _, _, .nil => rfl
  | _, _, .cons _ r => by simp only [List.length_cons, DpAll.length r]
theorem DpAll.get : ∀ {vs : List V} {ds : List PyData} {i : Nat} {d : PyData}, DpAll K H vs ds → ds[i]? = some d → ∃ v, vs[i]? = some v ∧ Dp K H v d
  | _, _, _, _, .nil, h => by simp at h
  | _, _, 0, _, .cons (v := v) p _, h => by
    have h := Option.some.inj h
    subst h
    exact ⟨v, rfl, p⟩
  | _, _, i + 1, d, .cons _ r, h => by
    obtain ⟨v, h1, h2⟩ := DpAll.get (i := i) (d := d) r h
    exact ⟨v, h1, h2⟩
theorem DpAll.got : ∀ {vs : List V} {ds : List PyData} {i : Nat} {v : V}, DpAll K H vs ds → vs[i]? = some v → ∃ d, ds[i]? = some d ∧ Dp K H v d
  | _, _, _, _, .nil, h => by simp at h
  | _, _, 0, _, .cons (d := d) p _, h => by
    have h := Option.some.inj h
    subst h
    exact ⟨d, rfl, p⟩
  | _, _, i + 1, v, .cons _ r, h => by
    obtain ⟨d, h1, h2⟩ := DpAll.got (i := i) (v := v) r h
    exact ⟨d, h1, h2⟩
theorem DpAll.append : ∀ {vs ws : List V} {ds es : List PyData}, DpAll K H vs ds → DpAll K H ws es → DpAll K H (vs ++ ws) (ds ++ es)
  | _, _, _, _, .nil, s => s
  | _, _, _, _, .cons p r, s => .cons p (DpAll.append r s)
theorem DpAll.take : ∀ {vs : List V} {ds : List PyData} (n : Nat), DpAll K H vs ds → DpAll K H (vs.take n) (ds.take n)
  | _, _, 0, _ => .nil
  | _, _, _ + 1, .nil => .nil
  | _, _, n + 1, .cons p r => .cons p (DpAll.take n r)
theorem DpAll.drop : ∀ {vs : List V} {ds : List PyData} (n : Nat), DpAll K H vs ds → DpAll K H (vs.drop n) (ds.drop n)
  | _, _, 0, r => r
  | _, _, _ + 1, .nil => .nil
  | _, _, n + 1, .cons _ r => DpAll.drop n r
theorem dpAll_ints : ∀ ns : List Int, DpAll K H (ns.map V.int) (ns.map PyData.int)
  | [] => .nil
  | n :: ns => .cons (.int n) (dpAll_ints ns)
theorem dpAll_ints_inv : ∀ {ns : List Int} {vs : List V}, DpAll K H vs (ns.map PyData.int) → vs = ns.map V.int
  | [], _, h => by cases h; rfl
  | n :: ns, _, h => by
    cases h with
    | cons p r => cases p; rw [dpAll_ints_inv r]; rfl
theorem dp_int {i : Int} (h : Dp K H v (.int i)) : v = .int i := by cases h; rfl
theorem dp_str {x : Str} (h : Dp K H v (.str x)) : v = .str x := by cases h; rfl
theorem dp_list {ds : List PyData} (h : Dp K H v (.list ds)) : ∃ a xs, v = .ref a ∧ SqL K H a xs ∧ DpAll K H xs ds := by
  cases h with
  | lst s r => exact ⟨_, _, rfl, s, r⟩
theorem dp_tuple {ds : List PyData} (h : Dp K H v (.tuple ds)) : ∃ a xs, v = .ref a ∧ SqT K H a xs ∧ DpAll K H xs ds := by
  cases h with
  | tup s r => exact ⟨_, _, rfl, s, r⟩
/-! ### isinstance -/
theorem tyx_l (h : SqL K H a xs) : TyX K H (.ref a) (.type "list") := by
  rcases h with (h | ⟨o, h⟩) | ⟨o, its, n, h, c, _⟩
  · exact .base (.lst h)
  · exact .base (.frz h)
  · exact .kList h c
theorem tyx_t (h : SqT K H a xs) : TyX K H (.ref a) (.type "tuple") := by
  rcases h with (h | ⟨o, h⟩) | ⟨o, its, n, h, c, _⟩
  · exact .base (.tup h)
  · exact .fTuple h
  · exact .kTuple h c
/-- the name of a datum's class -/
def tyName : PyData → String
  | .none => "NoneType" | .bool _ => "bool" | .int _ => "int" | .str _ => "str" | .list _ => "list" | .tuple _ => "tuple" | .dict _ => "dict"
theorem tyx_dp : ∀ {d : PyData}, Dp K H v d → TyX K H v (.type (tyName d))
  | .none, h => by cases h; exact .base .non
  | .bool _, h => by cases h; exact .base (.bl _)
  | .int _, h => by cases h; exact .base (.int _)
  | .str _, h => by cases h; exact .base (.str _)
  | .list _, h => by cases h with | lst s _ => exact tyx_l s
  | .tuple _, h => by cases h with | tup s _ => exact tyx_t s
/-- isinstance(x, T) by the names of two built-in classes -/
def isN (n T : String) : Bool := kitB n T == some true
theorem kitB_all : ∀ n ∈ ["NoneType", "int", "bool", "str", "list", "tuple"], ∀ T ∈ ["int", "bool", "str", "list", "tuple"], kitB n T = some (isN n T) := by decide +kernel
/-! ### == of data -/
theorem shaped_of {d : PyData} (h1 : d.canLay0 = true) (h2 : d.depth ≤ 64) : SeqAt.shaped d = true := by
  unfold SeqAt.shaped
  rw [h1, decide_eq_true h2]
  rfl
theorem eqv_self {d : PyData} (h : SeqAt.shaped d = true) : PyData.eqv d d = true := SeqAt.eqv_refl d (SeqAt.canLay_of_shaped h)
/-- data without dicts, at most n lists or tuples deep, their texts of proper signs -/
def fl : Nat → PyData → Bool
  | _, .none => true
  | _, .bool _ => true
  | _, .int _ => true
  | _, .str x => PyData.strOk x
  | n + 1, .list xs => xs.all (fl n)
  | n + 1, .tuple xs => xs.all (fl n)
  | _, _ => false
theorem fl_all {n : Nat} (f : ∀ d, fl n d = true → d.canLay0 = true ∧ d.depth ≤ n) : ∀ xs : List PyData, xs.all (fl n) = true → PyData.canLayAll0 xs = true ∧ PyData.depthAll xs ≤ n
  | [], _ => ⟨rfl, by unfold PyData.depthAll; omega⟩
  | x :: xs, h => by
    rw [List.all_cons, Bool.and_eq_true] at h
    obtain ⟨h1, h2⟩ := f x h.1
    obtain ⟨h3, h4⟩ := fl_all f xs h.2
    refine ⟨?_, ?_⟩
    · unfold PyData.canLayAll0; rw [h1, h3]; rfl
    · unfold PyData.depthAll; omega
theorem fl_ok : ∀ (n : Nat) (d : PyData), fl n d = true → d.canLay0 = true ∧ d.depth ≤ n
  | n, .none, _ => ⟨rfl, by unfold PyData.depth; omega⟩
  | n, .bool _, _ => ⟨rfl, by unfold PyData.depth; omega⟩
  | n, .int _, _ => ⟨rfl, by unfold PyData.depth; omega⟩
  | n, .str x, h => ⟨by
      cases n <;> exact h, by unfold PyData.depth; omega⟩
  | 0, .list xs, h => by cases h
  | 0, .tuple xs, h => by cases h
  | n + 1, .list xs, h => by
    obtain ⟨h1, h2⟩ := fl_all (fl_ok n) xs h
    exact ⟨h1, by unfold PyData.depth; omega⟩
  | n + 1, .tuple xs, h => by
    obtain ⟨h1, h2⟩ := fl_all (fl_ok n) xs h
    exact ⟨h1, by unfold PyData.depth; omega⟩
  | 0, .dict _, h => by cases h
  | n + 1, .dict _, h => by cases h
theorem shaped_fl {n : Nat} {d : PyData} (h : fl n d = true) (hn : n ≤ 64 := by decide) : SeqAt.shaped d = true :=
  have k := fl_ok n d h
  shaped_of k.1 (Nat.le_trans k.2 hn)
theorem fl_mono : ∀ {n m : Nat} {d : PyData}, fl n d = true → n ≤ m → fl m d = true
  | _, m, .none, _, _ => by cases m <;> rfl
  | _, m, .bool _, _, _ => by cases m <;> rfl
  | _, m, .int _, _, _ => by cases m <;> rfl
  | n, m, .str x, h, _ => by cases n <;> cases m <;> exact h
  | 0, _, .list xs, h, _ => by cases h
  | 0, _, .tuple xs, h, _ => by cases h
  | n + 1, 0, .list xs, h, l => by omega
  | n + 1, 0, .tuple xs, h, l => by omega
  | n + 1, m + 1, .list xs, h, l => by
    show xs.all (fl m) = true
    have h : xs.all (fl n) = true := h
    rw [List.all_eq_true] at h ⊢
    exact fun x hx => fl_mono (h x hx) (by omega)
  | n + 1, m + 1, .tuple xs, h, l => by
    show xs.all (fl m) = true
    have h : xs.all (fl n) = true := h
    rw [List.all_eq_true] at h ⊢
    exact fun x hx => fl_mono (h x hx) (by omega)
  | 0, _, .dict _, h, _ => by cases h
  | n + 1, _, .dict _, h, _ => by cases h
theorem fl_ints (n : Nat) (ns : List Int) : (ns.map PyData.int).all (fl n) = true := by
  rw [List.all_eq_true]
  intro x hx
  obtain ⟨i, _, rfl⟩ := List.mem_map.mp hx
  cases n <;> rfl
end
end L2
namespace Of
open PySem PyProof.Rows L2
/-! ### what is owned (and may change) set aside: all else stands still -/
open Classical in
noncomputable def off (fp : Addr → Prop) (H : Hp) : Hp := fun a => if fp a then none else H a
/-- what is owned stands -/
def Has (fp : Addr → Prop) (H : Hp) : Prop := ∀ a, fp a → H a ≠ none
section
variable {K : PySem.W.Frag} {H H' : Hp} {a p D : Addr} {xs : List V} {v : V} {fp fq : Addr → Prop} {o : HO}
theorem off_in (h : fp a) : off fp H a = none := if_pos h
theorem off_out (h : ¬ fp a) : off fp H a = H a := if_neg h
theorem off_some {u : HO} (h : off fp H a = some u) : ¬ fp a ∧ H a = some u := by
  unfold off at h
  split at h
  · cases h
  · exact ⟨by assumption, h⟩
theorem off_same : Same (off fp H) H := fun _ _ h => (off_some h).2
theorem off_mono (e : Same H H') : Same (off fp H) (off fp H') := fun b u h => by
  obtain ⟨h1, h2⟩ := off_some h
  rw [off_out h1]
  exact e _ _ h2
theorem off_less (h : ∀ a, fp a → fq a) : Same (off fq H) (off fp H) := fun b u q => by
  obtain ⟨h1, h2⟩ := off_some q
  rw [off_out fun z => h1 (h b z)]
  exact h2
theorem off_upd (h : fp p) : off fp (upd H p o) = off fp H := by
  funext b
  by_cases hb : fp b
  · rw [off_in hb, off_in hb]
  · rw [off_out hb, off_out hb, upd_ne fun z => hb (by rw [z]; exact h)]
theorem off_put (h : ¬ fp p) : off fp (upd H p o) p = some o := by rw [off_out h, upd_same]
theorem Has.new (h : Has fp H) (hp : H p = none) : ¬ fp p := fun z => h p z hp
theorem Has.same (h : Has fp H) (e : Same H H') : Has fp H' := fun b z q => by
  cases x : H b with
  | none => exact h b z x
  | some u => rw [e b u x] at q; cases q
theorem Has.upd (h : Has fp H) : Has fp (upd H p o) := fun b z q => by
  by_cases hb : b = p
  · rw [hb, upd_same] at q; cases q
  · rw [upd_ne hb] at q; exact h b z q
theorem has_none : Has (fun _ => False) H := fun _ z => z.elim
theorem off_none : off (fun _ => False) H = H := by
  funext b
  exact if_neg id
theorem Has.off (h : Has fp H) (e : Same (off fp H) H') (hf : ∀ a, fp a → H' a ≠ none) : Has fp H' := hf
/-- a new tuple of data -/
theorem dp_tup_new {ds : List PyData} (hf : Has fp H) (hp : H p = none) (h : DpAll K (off fp H) xs ds) : Dp K (off fp (upd H p (.tup xs))) (.ref p) (.tuple ds) :=
  .tup (.inl (.inl (off_put (hf.new hp)))) (h.same (off_mono (same_new hp)))
theorem dp_lst_new {ds : List PyData} (hf : Has fp H) (hp : H p = none) (h : DpAll K (off fp H) xs ds) : Dp K (off fp (upd H p (.lst xs))) (.ref p) (.list ds) :=
  .lst (.inl (.inl (off_put (hf.new hp)))) (h.same (off_mono (same_new hp)))
/-- what is owned, and the list in the making -/
abbrev And1 (fp : Addr → Prop) (D : Addr) : Addr → Prop := fun a => fp a ∨ a = D
theorem Has.and1 (h : Has fp H) (hD : H D ≠ none) : Has (And1 fp D) H := fun b z => by
  rcases z with z | z
  · exact h b z
  · rw [z]; exact hD
theorem wipe1 {σ : L2.St} {j : Nat} {x : Option V} : wipe ((wipe σ [j]).set j x) [j] = wipe σ [j] := by
  show ((σ.set j none).set j x).set j none = σ.set j none
  rw [List.set_set, List.set_set]
theorem take_succ' {α : Type} {l : List α} {i : Nat} {x : α} (h : l[i]? = some x) : l.take (i + 1) = l.take i ++ [x] := by
  rw [List.take_add_one, h]; rfl
/-- [e for x in xs] over a list, each e a datum; x in the slot j -/
theorem lcD_list {te : TE} {σ : L2.St} {j : Nat} {H1 : Hp} {Qd : Hp → Prop} (ds : List PyData) (hl : xs.length = ds.length) (hz : ds.length ≤ 100000) (hS : SqL K H1 a xs) (hD : H1 D = none) (hf : Has fp H1)
    (turn : ∀ (i : Nat) (x : V) (d : PyData) (H : Hp) (R : VK), xs[i]? = some x → ds[i]? = some d → Same H1 H → Has (And1 fp D) H → (∀ y H', Same H H' → Dp K (off (And1 fp D) H') y d → R y H') → te ((wipe σ [j]).set j (some x)) H R)
    (fin : ∀ H' ys, Same H1 H' → H' D = some (.lst ys) → DpAll K (off (And1 fp D) H') ys ds → Dp K (off fp H') (.ref D) (.list ds) → Qd H') :
    ∃ W : Nat → Nat → Hp → Prop, (∃ m, W 0 m (upd H1 D (.lst []))) ∧ ∀ i m H, W i m H →
      ((Itl K a).stop i H ∧ Qd H) ∨ ((Itl K a).go i H ∧ ∃ Nx : Hp → Prop, (∀ H', Nx H' → ∃ m', m' < m ∧ W (i + 1) m' H') ∧ ∀ x H', (Itl K a).yld i H x H' → gName j x (wipe σ [j]) H' fun σ2 H2 => wipe σ2 [j] = wipe σ [j] ∧ tYes σ2 H2 fun b H3 =>
        if b = true then te σ2 H3 fun y H4 => ∃ acc, H4 D = some (.lst acc) ∧ acc.length < sizeLine ∧ Nx (upd H4 D (.lst (acc ++ [y]))) else Nx H3) := by
  refine lc_list (K := K) (a := a) (xs := xs) (fun i H => ∃ ys, Same H1 H ∧ H D = some (.lst ys) ∧ DpAll K (off (And1 fp D) H) ys (ds.take i)) ⟨[], same_new hD, upd_same, .nil⟩ (fun i H _ ⟨_, s, _⟩ => same_l s hS) ?_ ?_
  · rintro i x H hx ⟨ys, s, hd, r⟩
    have hi : i < ds.length := by
      have := (List.getElem?_eq_some_iff.mp hx).1
      omega
    have hf1 : Has (And1 fp D) H := (hf.same s).and1 (by rw [hd]; exact fun z => nomatch z)
    refine ⟨wipe1, ?_⟩
    refine turn i x ds[i] H _ hx (List.getElem?_eq_getElem hi) s hf1 fun y H4 s4 r4 => ?_
    have hd4 : H4 D = some (.lst ys) := s4 _ _ hd
    have hn := r.length
    rw [List.length_take] at hn
    refine ⟨ys, hd4, Evl.sz_lt (by omega), ys ++ [y], same_mut (s.trans s4) hD, upd_same, ?_⟩
    rw [off_upd (Or.inr rfl), take_succ' (List.getElem?_eq_getElem hi)]
    exact (r.same (off_mono s4)).append (.cons r4 .nil)
  · rintro H ⟨ys, s, hd, r⟩
    rw [hl, List.take_length] at r
    refine fin H ys s hd r (.lst (.inl (.inl ?_)) (r.same (off_less fun _ z => Or.inl z)))
    rw [off_out (hf.new hD), hd]
/-- .. over range(n) -/
theorem lcD_range {te : TE} {σ : L2.St} {j : Nat} {H1 : Hp} {Qd : Hp → Prop} {n : Nat} (ds : List PyData) (hl : n = ds.length) (hz : ds.length ≤ 100000) (hD : H1 D = none) (hf : Has fp H1)
    (turn : ∀ (i : Nat) (d : PyData) (H : Hp) (R : VK), i < n → ds[i]? = some d → Same H1 H → Has (And1 fp D) H → (∀ y H', Same H H' → Dp K (off (And1 fp D) H') y d → R y H') → te ((wipe σ [j]).set j (some (.int (0 + (i : Int))))) H R)
    (fin : ∀ H' ys, Same H1 H' → H' D = some (.lst ys) → DpAll K (off (And1 fp D) H') ys ds → Dp K (off fp H') (.ref D) (.list ds) → Qd H') :
    ∃ W : Nat → Nat → Hp → Prop, (∃ m, W 0 m (upd H1 D (.lst []))) ∧ ∀ i m H, W i m H →
      ((Itr 0 n).stop i H ∧ Qd H) ∨ ((Itr 0 n).go i H ∧ ∃ Nx : Hp → Prop, (∀ H', Nx H' → ∃ m', m' < m ∧ W (i + 1) m' H') ∧ ∀ x H', (Itr 0 n).yld i H x H' → gName j x (wipe σ [j]) H' fun σ2 H2 => wipe σ2 [j] = wipe σ [j] ∧ tYes σ2 H2 fun b H3 =>
        if b = true then te σ2 H3 fun y H4 => ∃ acc, H4 D = some (.lst acc) ∧ acc.length < sizeLine ∧ Nx (upd H4 D (.lst (acc ++ [y]))) else Nx H3) := by
  refine lc_range (lo := 0) (n := n) (fun i H => ∃ ys, Same H1 H ∧ H D = some (.lst ys) ∧ DpAll K (off (And1 fp D) H) ys (ds.take i)) ⟨[], same_new hD, upd_same, .nil⟩ ?_ ?_
  · rintro i H hx ⟨ys, s, hd, r⟩
    have hi : i < ds.length := by omega
    have hf1 : Has (And1 fp D) H := (hf.same s).and1 (by rw [hd]; exact fun z => nomatch z)
    refine ⟨wipe1, ?_⟩
    refine turn i ds[i] H _ hx (List.getElem?_eq_getElem hi) s hf1 fun y H4 s4 r4 => ?_
    have hd4 : H4 D = some (.lst ys) := s4 _ _ hd
    have hn := r.length
    rw [List.length_take] at hn
    refine ⟨ys, hd4, Evl.sz_lt (by omega), ys ++ [y], same_mut (s.trans s4) hD, upd_same, ?_⟩
    rw [off_upd (Or.inr rfl), take_succ' (List.getElem?_eq_getElem hi)]
    exact (r.same (off_mono s4)).append (.cons r4 .nil)
  · rintro H ⟨ys, s, hd, r⟩
    rw [hl, List.take_length] at r
    refine fin H ys s hd r (.lst (.inl (.inl ?_)) (r.same (off_less fun _ z => Or.inl z)))
    rw [off_out (hf.new hD), hd]
/-- [e for x in xs if t] over a list of ints, each e an int -/
theorem lcI_filter {tt : TT} {te : TE} {σ : L2.St} {j : Nat} {H1 : Hp} {Qd : Hp → Prop} {ns : List Int} (c : Int → Bool) (f : Int → Int) (hz : ns.length ≤ 100000) (hS : SqL K H1 a (ns.map V.int)) (hD : H1 D = none)
    (test : ∀ (x : Int) (H : Hp) (R : Bool → Hp → Prop), Same H1 H → R (c x) H → tt ((wipe σ [j]).set j (some (.int x))) H R)
    (turn : ∀ (x : Int) (H : Hp) (R : VK), Same H1 H → R (.int (f x)) H → te ((wipe σ [j]).set j (some (.int x))) H R)
    (fin : ∀ H', Same H1 H' → H' D = some (.lst (((ns.filter c).map f).map V.int)) → Qd H') :
    ∃ W : Nat → Nat → Hp → Prop, (∃ m, W 0 m (upd H1 D (.lst []))) ∧ ∀ i m H, W i m H →
      ((Itl K a).stop i H ∧ Qd H) ∨ ((Itl K a).go i H ∧ ∃ Nx : Hp → Prop, (∀ H', Nx H' → ∃ m', m' < m ∧ W (i + 1) m' H') ∧ ∀ x H', (Itl K a).yld i H x H' → gName j x (wipe σ [j]) H' fun σ2 H2 => wipe σ2 [j] = wipe σ [j] ∧ tt σ2 H2 fun b H3 =>
        if b = true then te σ2 H3 fun y H4 => ∃ acc, H4 D = some (.lst acc) ∧ acc.length < sizeLine ∧ Nx (upd H4 D (.lst (acc ++ [y]))) else Nx H3) := by
  refine lc_list (K := K) (a := a) (xs := ns.map V.int) (fun i H => Same H1 H ∧ H D = some (.lst ((((ns.take i).filter c).map f).map V.int))) ⟨same_new hD, upd_same⟩ (fun i H _ ⟨s, _⟩ => same_l s hS) ?_ ?_
  · rintro i x H hx ⟨s, hd⟩
    rw [List.getElem?_map] at hx
    cases e : ns[i]? with
    | none => rw [e] at hx; cases hx
    | some n =>
      rw [e] at hx
      have hx := Option.some.inj hx
      subst hx
      have hi : i < ns.length := (List.getElem?_eq_some_iff.mp e).1
      refine ⟨wipe1, test n H _ s ?_⟩
      refine ite2 (fun h => ?_) (fun h => ?_)
      · refine turn n H _ s ⟨_, hd, Evl.sz_lt ?_, same_mut s hD, ?_⟩
        · rw [List.length_map, List.length_map]
          have h1 := List.length_filter_le c (ns.take i)
          have h2 := List.length_take (i := i) (l := ns)
          omega
        · rw [upd_same, take_succ' e, List.filter_append, List.map_append, List.map_append]
          have e1 : [n].filter c = [n] := by simp [h]
          rw [e1]; rfl
      · refine ⟨s, ?_⟩
        rw [hd, take_succ' e, List.filter_append]
        have e1 : [n].filter c = [] := by simp [h]
        rw [e1, List.append_nil]
  · rintro H ⟨s, hd⟩
    rw [List.length_map, List.take_length] at hd
    exact fin H s hd
end
end Of

set_option Elab.async false
set_option linter.all false
set_option maxRecDepth 100000
set_option maxHeartbeats 4000000
/-! The plain account of orders: what the document says a deed does, as functions of data. -/
namespace Of
open PySem PyProof.Rows L2
structure Ln where
  item : Str
  pieces : Int
  cents : Int
  pack : Int
  sent : Int
  home : Int
  again : Int
  credited : Int
structure Od where
  lines : List Ln
  paid : Int
  rows : List (Str × Int)
def Ln.worth (l : Ln) : Int := (l.sent - l.home) * l.cents / l.pack
def Ln.charge (l : Ln) : Int := l.worth - l.credited
def Od.owed (m : Od) : Int := (m.lines.map Ln.charge).sum - m.paid
/-- a line as it is ordered -/
structure LineT where
  item : Str
  pieces : Int
  cents : Int
  pack : Int
def LineT.new (t : LineT) : Ln := ⟨t.item, t.pieces, t.cents, t.pack, 0, 0, 0, 0⟩
inductive Deed where
  | ord (ls : List LineT)
  | goods (w : Str) (o l n : Int)
  | money (w : Str) (o n : Int)
  | move (o p n : Int)
def Deed.word : Deed → Str
  | .ord _ => "order"
  | .goods w _ _ _ => w
  | .money w _ _ => w
  | .move _ _ _ => "move"
def GoodsW (w : Str) : Prop := w = "deliver" ∨ w = "back" ∨ w = "swap" ∨ w = "credit"
def MoneyW (w : Str) : Prop := w = "pay" ∨ w = "refund"
/-- the words are those of the eight -/
def Deed.Shape : Deed → Prop
  | .ord _ => True
  | .goods w _ _ _ => GoodsW w
  | .money w _ _ => MoneyW w
  | .move _ _ _ => True
/-- n lies from nought on below the length -/
def inR (n : Int) (k : Nat) : Bool := decide (0 ≤ n) && decide (n < (k : Int))
theorem inR_iff {n : Int} {k : Nat} : inR n k = true ↔ 0 ≤ n ∧ n < (k : Int) := by
  unfold inR; rw [Bool.and_eq_true, decide_eq_true_eq, decide_eq_true_eq]
def ordAt (M : List Od) (n : Int) : Od := M.getD n.toNat ⟨[], 0, []⟩
def lnAt (m : Od) (n : Int) : Ln := m.lines.getD n.toNat ⟨⟨#[]⟩, 0, 0, 0, 0, 0, 0, 0⟩
/-- as many as go, of a line -/
def mostL (w : Str) (l : Ln) : Int := if w = "deliver" then l.pieces - l.sent + l.again else if w = "credit" then l.charge else l.sent - l.home
def mostM (w : Str) (at_ pl : Int) (M : List Od) : Int :=
  if inR at_ M.length = false then 5
  else if w = "pay" then (ordAt M at_).owed
  else if w = "refund" ∨ w = "move" then -(ordAt M at_).owed
  else if inR pl (ordAt M at_).lines.length = false then 5
  else mostL w (lnAt (ordAt M at_) pl)
/-- the class that refuses a deed on books whose orders are all right, or the empty text -/
def refusalM (M : List Od) : Deed → Str
  | .ord _ => ""
  | .goods w o l n =>
    if inR o M.length = false then "NoOrder"
    else if inR l (ordAt M o).lines.length = false then "NoLine"
    else if n < 1 then "NoNumber"
    else if mostM w o l M < n then "TooMuch" else ""
  | .money w o n =>
    if inR o M.length = false then "NoOrder"
    else if n < 1 then "NoNumber"
    else if ¬ w = "pay" ∧ mostM w o 0 M < n then "TooMuch" else ""
  | .move o p n =>
    if inR o M.length = false ∨ inR p M.length = false then "NoOrder"
    else if o = p then "SameOrder"
    else if n < 1 then "NoNumber"
    else if mostM "move" o 0 M < n then "TooMuch" else ""
def turnL (w : Str) (n : Int) (l : Ln) : Ln :=
  if w = "deliver" then { l with sent := l.sent + n }
  else if w = "credit" then { l with credited := l.credited + n }
  else
    let b : Ln := { l with home := l.home + n, again := l.again + (if w = "swap" then n else 0) }
    { b with credited := min l.credited b.worth }
def setLine (m : Od) (j : Nat) (l : Ln) : Od := { m with lines := m.lines.set j l }
def addPaid (m : Od) (n : Int) : Od := { m with paid := m.paid + n }
def addRow (m : Od) (w : Str) (c : Int) : Od := { m with rows := m.rows ++ [(w, c)] }
/-- what a deed turns, no rows yet -/
def turnM (M : List Od) : Deed → List Od
  | .ord _ => M
  | .goods w o l n => M.set o.toNat (setLine (ordAt M o) l.toNat (turnL w n (lnAt (ordAt M o) l)))
  | .money w o n => M.set o.toNat (addPaid (ordAt M o) (if w = "pay" then n else -n))
  | .move o p n => (M.set o.toNat (addPaid (ordAt M o) (-n))).set p.toNat (addPaid (ordAt M p) n)
def placesM : Deed → List Int
  | .ord _ => []
  | .goods _ o _ _ => [o]
  | .money _ o _ => [o]
  | .move o p _ => [o, p]
def changesM (M : List Od) (d : Deed) : List (Int × Int) := (placesM d).map fun a => (a, (ordAt (turnM M d) a).owed - (ordAt M a).owed)
def rowsM (M : List Od) (w : Str) (cs : List (Int × Int)) : List Od := cs.foldl (fun M c => M.set c.1.toNat (addRow (ordAt M c.1) w c.2)) M
def stepM (M : List Od) (d : Deed) : List Od :=
  match d with
  | .ord ls => M ++ [⟨ls.map LineT.new, 0, []⟩]
  | d => rowsM (turnM M d) d.word (changesM M d)
/-! ### what stands of every account -/
structure Ln.Ok (l : Ln) : Prop where
  c0 : 0 ≤ l.cents
  c1 : l.cents ≤ 1000000000
  p0 : 1 ≤ l.pack
  p1 : l.pack ≤ 1000
  it : PyData.strOk l.item = true
structure Od.Ok (m : Od) : Prop where
  ne : 1 ≤ m.lines.length
  le : m.lines.length ≤ 20
  ln : ∀ l ∈ m.lines, l.Ok
  rw : ∀ r ∈ m.rows, PyData.strOk r.1 = true
structure WF (M : List Od) : Prop where
  ok : ∀ m ∈ M, m.Ok
/-! ### as data -/
def rowD (r : Str × Int) : PyData := .tuple [.str r.1, .int r.2]
def lnD (l : Ln) : PyData := .list [.str l.item, .int l.pieces, .int l.cents, .int l.pack, .int l.sent, .int l.home, .int l.again, .int l.credited]
def odD (m : Od) : PyData := .list [.list (m.lines.map lnD), .int m.paid, .list (m.rows.map rowD)]
def lineD (t : LineT) : PyData := .tuple [.str t.item, .int t.pieces, .int t.cents, .int t.pack]
def deedD : Deed → PyData
  | .ord ls => .tuple [.str "order", .list (ls.map lineD)]
  | .goods w o l n => .tuple [.str w, .int o, .int l, .int n]
  | .money w o n => .tuple [.str w, .int o, .int n]
  | .move o p n => .tuple [.str "move", .int o, .int p, .int n]
def chD (c : Int × Int) : PyData := .tuple [.int c.1, .int c.2]
def changesD (cs : List (Int × Int)) : PyData := .list (cs.map chD)
/-- a line that may be ordered -/
structure LineT.Ok (t : LineT) : Prop where
  n0 : 1 ≤ t.pieces
  n1 : t.pieces ≤ 1000000
  c0 : 0 ≤ t.cents
  c1 : t.cents ≤ 1000000000
  p0 : 1 ≤ t.pack
  p1 : t.pack ≤ 1000
  i0 : 1 ≤ t.item.length
  i1 : t.item.length ≤ 12
  ia : ∀ c ∈ t.item.cps.toList, 97 ≤ c ∧ c ≤ 122
def Deed.LinesOk : Deed → Prop
  | .ord ls => 1 ≤ ls.length ∧ ls.length ≤ 20 ∧ ∀ t ∈ ls, t.Ok
  | _ => True
theorem LineT.Ok.str {t : LineT} (h : t.Ok) : PyData.strOk t.item = true := by
  unfold PyData.strOk
  rw [Array.all_eq_true']
  intro c hc
  have := h.ia c (by simpa using hc)
  exact decide_eq_true (by omega)
theorem LineT.Ok.ln {t : LineT} (h : t.Ok) : t.new.Ok := ⟨h.c0, h.c1, h.p0, h.p1, h.str⟩
/-! ### the accounts in the heap -/
def LnV (l : Ln) : List V := [.str l.item, .int l.pieces, .int l.cents, .int l.pack, .int l.sent, .int l.home, .int l.again, .int l.credited]
structure OA where
  a : Addr
  ls : Addr
  rs : Addr
  lns : List Addr
inductive Role where
  | top | hd (k : Nat) | ls (k : Nat) | rs (k : Nat) | ln (k j : Nat) | non
structure OdAt (K : PySem.W.Frag) (H F : Hp) (o : OA) (m : Od) : Prop where
  hd : H o.a = some (.lst [.ref o.ls, .int m.paid, .ref o.rs])
  hl : H o.ls = some (.lst (o.lns.map V.ref))
  len : o.lns.length = m.lines.length
  ln : ∀ (i : Nat) x l, o.lns[i]? = some x → m.lines[i]? = some l → H x = some (.lst (LnV l))
  hr : ∃ ts, H o.rs = some (.lst ts) ∧ DpAll K F ts (m.rows.map rowD)
structure Acc (K : PySem.W.Frag) (fp own : Addr → Prop) (H : Hp) (p : Addr) (os : List OA) (M : List Od) : Prop where
  top : H p = some (.lst (os.map fun o => V.ref o.a))
  len : os.length = M.length
  od : ∀ (k : Nat) o m, os[k]? = some o → M[k]? = some m → OdAt K H (off fp H) o m
  role : ∃ r : Addr → Role, r p = .top ∧ ∀ (k : Nat) o, os[k]? = some o → r o.a = .hd k ∧ r o.ls = .ls k ∧ r o.rs = .rs k ∧ ∀ (j : Nat) x, o.lns[j]? = some x → r x = .ln k j
  ow : own p ∧ ∀ o ∈ os, own o.a ∧ own o.ls ∧ own o.rs ∧ ∀ x ∈ o.lns, own x
  sub : ∀ a, own a → fp a
section
variable {K : PySem.W.Frag} {fp fp' own : Addr → Prop} {H H' : Hp} {p : Addr} {os : List OA} {M : List Od}
/-- what does not touch the accounts leaves them -/
theorem Acc.frame (A : Acc K fp own H p os M) (h : ∀ a o, own a → H a = some o → H' a = some o) (s : Same (off fp H) (off fp' H')) (sub : ∀ a, own a → fp' a) : Acc K fp' own H' p os M := by
  refine ⟨h _ _ A.ow.1 A.top, A.len, fun k o m ho hm => ?_, A.role, A.ow, sub⟩
  obtain ⟨h1, h2, h3, h4⟩ := A.ow.2 o (List.mem_of_getElem? ho)
  have O := A.od k o m ho hm
  obtain ⟨ts, r1, r2⟩ := O.hr
  exact ⟨h _ _ h1 O.hd, h _ _ h2 O.hl, O.len, fun i x l hx hl => h _ _ (h4 x (List.mem_of_getElem? hx)) (O.ln i x l hx hl), ts, h _ _ h3 r1, r2.same s⟩
theorem Acc.same (A : Acc K fp own H p os M) (s : Same H H') : Acc K fp own H' p os M := A.frame (fun a o _ h => s a o h) (off_mono s) A.sub
theorem Acc.get (A : Acc K fp own H p os M) {k : Nat} (h : k < M.length) : ∃ o, os[k]? = some o ∧ OdAt K H (off fp H) o M[k] := by
  have h' : k < os.length := by rw [A.len]; exact h
  exact ⟨os[k], List.getElem?_eq_getElem h', A.od k _ _ (List.getElem?_eq_getElem h') (List.getElem?_eq_getElem h)⟩
/-- an order's line changes -/
theorem Acc.setLine (A : Acc K fp own H p os M) {k j : Nat} {o : OA} {x : Addr} {m : Od} {l : Ln} (ho : os[k]? = some o) (hm : M[k]? = some m) (hx : o.lns[j]? = some x) : Acc K fp own (upd H x (.lst (LnV l))) p os (M.set k (setLine m j l)) := by
  obtain ⟨r, r0, rk⟩ := A.role
  obtain ⟨a1, a2, a3, a4⟩ := A.ow.2 o (List.mem_of_getElem? ho)
  have rx := (rk k o ho).2.2.2 j x hx
  have ox := a4 x (List.mem_of_getElem? hx)
  have eo : off fp (upd H x (.lst (LnV l))) = off fp H := off_upd (A.sub _ ox)
  have ne : ∀ {y : Addr} {q : Role}, r y = q → q ≠ .ln k j → y ≠ x := fun h1 h2 e => h2 (by rw [← h1, e, rx])
  refine ⟨by rw [upd_ne (ne r0 (by intro z; cases z))]; exact A.top, by rw [List.length_set]; exact A.len, fun k' o' m' ho' hm' => ?_, A.role, A.ow, A.sub⟩
  obtain ⟨q1, q2, q3, q4⟩ := rk k' o' ho'
  have hk' : k' < M.length := by rw [← A.len]; exact (List.getElem?_eq_some_iff.mp ho').1
  rw [eo]
  by_cases e : k = k'
  · subst e
    rw [ho] at ho'; cases ho'
    rw [List.getElem?_set_self hk'] at hm'; cases hm'
    have O := A.od k o m ho hm
    obtain ⟨ts, t1, t2⟩ := O.hr
    refine ⟨by rw [upd_ne (ne q1 (by intro z; cases z))]; exact O.hd, by rw [upd_ne (ne q2 (by intro z; cases z))]; exact O.hl, by
      rw [O.len]; exact (List.length_set ..).symm, fun i y l' hy hl' => ?_, ts, by rw [upd_ne (ne q3 (by intro z; cases z))]; exact t1, t2⟩
    have hl' : (m.lines.set j l)[i]? = some l' := hl'
    by_cases ei : j = i
    · subst ei
      rw [hx] at hy; cases hy
      have hj : j < m.lines.length := by rw [← O.len]; exact (List.getElem?_eq_some_iff.mp hx).1
      rw [List.getElem?_set_self hj] at hl'; cases hl'
      exact upd_same
    · rw [List.getElem?_set_ne ei] at hl'
      rw [upd_ne (ne (q4 i y hy) (by intro z; cases z; exact ei rfl))]
      exact O.ln i y l' hy hl'
  · rw [List.getElem?_set_ne e] at hm'
    have O := A.od k' o' m' ho' hm'
    obtain ⟨ts, t1, t2⟩ := O.hr
    exact ⟨by rw [upd_ne (ne q1 (by intro z; cases z))]; exact O.hd, by rw [upd_ne (ne q2 (by intro z; cases z))]; exact O.hl, O.len, fun i y l' hy hl' => by
      rw [upd_ne (ne (q4 i y hy) (by intro z; cases z; exact e rfl))]; exact O.ln i y l' hy hl', ts, by rw [upd_ne (ne q3 (by intro z; cases z))]; exact t1, t2⟩
/-- what is paid for an order changes -/
theorem Acc.setPaid (A : Acc K fp own H p os M) {k : Nat} {o : OA} {m : Od} {n : Int} (ho : os[k]? = some o) (hm : M[k]? = some m) : Acc K fp own (upd H o.a (.lst [.ref o.ls, .int n, .ref o.rs])) p os (M.set k { m with paid := n }) := by
  obtain ⟨r, r0, rk⟩ := A.role
  obtain ⟨a1, a2, a3, a4⟩ := A.ow.2 o (List.mem_of_getElem? ho)
  have rx := (rk k o ho).1
  have eo : off fp (upd H o.a (.lst [.ref o.ls, .int n, .ref o.rs])) = off fp H := off_upd (A.sub _ a1)
  have ne : ∀ {y : Addr} {q : Role}, r y = q → q ≠ .hd k → y ≠ o.a := fun h1 h2 e => h2 (by rw [← h1, e, rx])
  refine ⟨by rw [upd_ne (ne r0 (by intro z; cases z))]; exact A.top, by rw [List.length_set]; exact A.len, fun k' o' m' ho' hm' => ?_, A.role, A.ow, A.sub⟩
  obtain ⟨q1, q2, q3, q4⟩ := rk k' o' ho'
  have hk' : k' < M.length := by rw [← A.len]; exact (List.getElem?_eq_some_iff.mp ho').1
  rw [eo]
  by_cases e : k = k'
  · subst e
    rw [ho] at ho'; cases ho'
    rw [List.getElem?_set_self hk'] at hm'; cases hm'
    have O := A.od k o m ho hm
    obtain ⟨ts, t1, t2⟩ := O.hr
    exact ⟨upd_same, by rw [upd_ne (ne q2 (by intro z; cases z))]; exact O.hl, O.len, fun i y l' hy hl' => by
      rw [upd_ne (ne (q4 i y hy) (by intro z; cases z))]; exact O.ln i y l' hy hl', ts, by rw [upd_ne (ne q3 (by intro z; cases z))]; exact t1, t2⟩
  · rw [List.getElem?_set_ne e] at hm'
    have O := A.od k' o' m' ho' hm'
    obtain ⟨ts, t1, t2⟩ := O.hr
    exact ⟨by rw [upd_ne (ne q1 (by intro z; cases z; exact e rfl))]; exact O.hd, by rw [upd_ne (ne q2 (by intro z; cases z))]; exact O.hl, O.len, fun i y l' hy hl' => by
      rw [upd_ne (ne (q4 i y hy) (by intro z; cases z))]; exact O.ln i y l' hy hl', ts, by rw [upd_ne (ne q3 (by intro z; cases z))]; exact t1, t2⟩
/-- a row more -/
theorem Acc.addRow (A : Acc K fp own H p os M) {k : Nat} {o : OA} {m : Od} {ts : List V} {t : V} {w : Str} {c : Int} (ho : os[k]? = some o) (hm : M[k]? = some m) (ht : H o.rs = some (.lst ts)) (hd : DpAll K (off fp H) ts (m.rows.map rowD)) (h1 : Dp K (off fp H) t (rowD (w, c))) :
    Acc K fp own (upd H o.rs (.lst (ts ++ [t]))) p os (M.set k (addRow m w c)) := by
  obtain ⟨r, r0, rk⟩ := A.role
  obtain ⟨a1, a2, a3, a4⟩ := A.ow.2 o (List.mem_of_getElem? ho)
  have rx := (rk k o ho).2.2.1
  have eo : off fp (upd H o.rs (.lst (ts ++ [t]))) = off fp H := off_upd (A.sub _ a3)
  have ne : ∀ {y : Addr} {q : Role}, r y = q → q ≠ .rs k → y ≠ o.rs := fun h1 h2 e => h2 (by rw [← h1, e, rx])
  refine ⟨by rw [upd_ne (ne r0 (by intro z; cases z))]; exact A.top, by rw [List.length_set]; exact A.len, fun k' o' m' ho' hm' => ?_, A.role, A.ow, A.sub⟩
  obtain ⟨q1, q2, q3, q4⟩ := rk k' o' ho'
  have hk' : k' < M.length := by rw [← A.len]; exact (List.getElem?_eq_some_iff.mp ho').1
  rw [eo]
  by_cases e : k = k'
  · subst e
    rw [ho] at ho'; cases ho'
    rw [List.getElem?_set_self hk'] at hm'; cases hm'
    have O := A.od k o m ho hm
    refine ⟨by rw [upd_ne (ne q1 (by intro z; cases z))]; exact O.hd, by rw [upd_ne (ne q2 (by intro z; cases z))]; exact O.hl, O.len, fun i y l' hy hl' => by
      rw [upd_ne (ne (q4 i y hy) (by intro z; cases z))]; exact O.ln i y l' hy hl', ts ++ [t], upd_same, ?_⟩
    show DpAll K (off fp H) (ts ++ [t]) ((m.rows ++ [(w, c)]).map rowD)
    rw [List.map_append]
    exact hd.append (.cons h1 .nil)
  · rw [List.getElem?_set_ne e] at hm'
    have O := A.od k' o' m' ho' hm'
    obtain ⟨us, t1, t2⟩ := O.hr
    exact ⟨by rw [upd_ne (ne q1 (by intro z; cases z))]; exact O.hd, by rw [upd_ne (ne q2 (by intro z; cases z))]; exact O.hl, O.len, fun i y l' hy hl' => by
      rw [upd_ne (ne (q4 i y hy) (by intro z; cases z))]; exact O.ln i y l' hy hl', us, by rw [upd_ne (ne q3 (by intro z; cases z; exact e rfl))]; exact t1, t2⟩
/-- an order more, its parts new -/
theorem Acc.addOd (A : Acc K fp own H p os M) {o : OA} {m : Od} (O : OdAt K H (off fp H) o m) (hsub : ∀ x ∈ o.a :: o.ls :: o.rs :: o.lns, ¬ own x ∧ fp x) (hnd : (o.a :: o.ls :: o.rs :: o.lns).Nodup) :
    Acc K fp (fun x => own x ∨ x ∈ o.a :: o.ls :: o.rs :: o.lns) (upd H p (.lst ((os.map fun o => V.ref o.a) ++ [.ref o.a]))) p (os ++ [o]) (M ++ [m]) := by
  classical
  obtain ⟨r, r0, rk⟩ := A.role
  have eo : off fp (upd H p (.lst ((os.map fun o => V.ref o.a) ++ [.ref o.a]))) = off fp H := off_upd (A.sub _ A.ow.1)
  have np : ∀ x, x ∈ o.a :: o.ls :: o.rs :: o.lns → x ≠ p := fun x hx e => (hsub x hx).1 (by rw [e]; exact A.ow.1)
  have nq : ∀ (k : Nat) o', os[k]? = some o' → o'.a ≠ p ∧ o'.ls ≠ p ∧ o'.rs ≠ p ∧ ∀ x ∈ o'.lns, x ≠ p := fun k o' h => by
    obtain ⟨q1, q2, q3, q4⟩ := rk k o' h
    refine ⟨fun e => ?_, fun e => ?_, fun e => ?_, fun x hx e => ?_⟩
    · rw [e, r0] at q1; cases q1
    · rw [e, r0] at q2; cases q2
    · rw [e, r0] at q3; cases q3
    · obtain ⟨j, hj⟩ := List.getElem?_of_mem hx
      have := q4 j x hj
      rw [e, r0] at this; cases this
  refine ⟨by rw [upd_same, List.map_append]; rfl, by rw [List.length_append, List.length_append, A.len]; rfl, fun k o' m' ho' hm' => ?_, ?_, ⟨.inl A.ow.1, fun o' ho' => ?_⟩, fun a ha => ?_⟩
  · rw [eo]
    rcases Nat.lt_or_ge k os.length with hk | hk
    · rw [List.getElem?_append_left hk] at ho'
      rw [List.getElem?_append_left (by rw [← A.len]; exact hk)] at hm'
      have O' := A.od k o' m' ho' hm'
      obtain ⟨n1, n2, n3, n4⟩ := nq k o' ho'
      obtain ⟨us, t1, t2⟩ := O'.hr
      exact ⟨by rw [upd_ne n1]; exact O'.hd, by rw [upd_ne n2]; exact O'.hl, O'.len, fun i y l' hy hl' => by rw [upd_ne (n4 y (List.mem_of_getElem? hy))]; exact O'.ln i y l' hy hl', us, by rw [upd_ne n3]; exact t1, t2⟩
    · rw [List.getElem?_append_right hk] at ho'
      rw [List.getElem?_append_right (by rw [← A.len]; exact hk)] at hm'
      have hk0 : k - os.length = 0 := by
        have := (List.getElem?_eq_some_iff.mp ho').1
        simp only [List.length_cons, List.length_nil] at this
        omega
      have hk1 : k - M.length = 0 := by rw [← A.len]; exact hk0
      rw [hk0] at ho'
      rw [hk1] at hm'
      cases ho'
      cases hm'
      obtain ⟨us, t1, t2⟩ := O.hr
      exact ⟨by rw [upd_ne (np _ (by simp))]; exact O.hd, by rw [upd_ne (np _ (by simp))]; exact O.hl, O.len, fun i y l' hy hl' => by
        rw [upd_ne (np _ (by simp [List.mem_of_getElem? hy]))]; exact O.ln i y l' hy hl', us, by rw [upd_ne (np _ (by simp))]; exact t1, t2⟩
  · simp only [List.nodup_cons, List.mem_cons, not_or] at hnd
    obtain ⟨⟨d1, d2, d3⟩, ⟨d4, d5⟩, d6, d7⟩ := hnd
    refine ⟨fun x => if x = o.a then .hd os.length else if x = o.ls then .ls os.length else if x = o.rs then .rs os.length else if x ∈ o.lns then .ln os.length (o.lns.idxOf x) else r x, ?_, fun k o' ho' => ?_⟩
    · have e1 : ¬ p = o.a := fun e => np o.a (by simp) e.symm
      have e2 : ¬ p = o.ls := fun e => np o.ls (by simp) e.symm
      have e3 : ¬ p = o.rs := fun e => np o.rs (by simp) e.symm
      have e4 : ¬ p ∈ o.lns := fun e => np p (by simp [e]) rfl
      dsimp only
      rw [if_neg e1, if_neg e2, if_neg e3, if_neg e4]
      exact r0
    · rcases Nat.lt_or_ge k os.length with hk | hk
      · rw [List.getElem?_append_left hk] at ho'
        obtain ⟨q1, q2, q3, q4⟩ := rk k o' ho'
        obtain ⟨w1, w2, w3, w4⟩ := A.ow.2 o' (List.mem_of_getElem? ho')
        have no : ∀ x, own x → x ≠ o.a ∧ x ≠ o.ls ∧ x ≠ o.rs ∧ x ∉ o.lns := fun x hx => ⟨fun e => (hsub o.a (by simp)).1 (e ▸ hx), fun e => (hsub o.ls (by simp)).1 (e ▸ hx), fun e => (hsub o.rs (by simp)).1 (e ▸ hx), fun e => (hsub x (by simp [e])).1 hx⟩
        have go : ∀ x, own x → (if x = o.a then Role.hd os.length else if x = o.ls then .ls os.length else if x = o.rs then .rs os.length else if x ∈ o.lns then .ln os.length (o.lns.idxOf x) else r x) = r x := fun x hx => by
          obtain ⟨n1, n2, n3, n4⟩ := no x hx
          rw [if_neg n1, if_neg n2, if_neg n3, if_neg n4]
        exact ⟨(go _ w1).trans q1, (go _ w2).trans q2, (go _ w3).trans q3, fun j x hx => (go _ (w4 x (List.mem_of_getElem? hx))).trans (q4 j x hx)⟩
      · rw [List.getElem?_append_right hk] at ho'
        have hk0 : k - os.length = 0 := by
          have := (List.getElem?_eq_some_iff.mp ho').1
          simp only [List.length_cons, List.length_nil] at this
          omega
        have hk2 : k = os.length := by omega
        rw [hk0] at ho'
        cases ho'
        subst hk2
        refine ⟨if_pos rfl, by dsimp only; rw [if_neg (Ne.symm d1), if_pos rfl], by dsimp only; rw [if_neg (Ne.symm d2), if_neg (Ne.symm d4), if_pos rfl], fun j x hx => ?_⟩
        have hm := List.mem_of_getElem? hx
        have e1 : ¬ x = o.a := fun e => d3 (e ▸ hm)
        have e2 : ¬ x = o.ls := fun e => d5 (e ▸ hm)
        have e3 : ¬ x = o.rs := fun e => d6 (e ▸ hm)
        dsimp only
        rw [if_neg e1, if_neg e2, if_neg e3, if_pos hm]
        congr 1
        obtain ⟨hj, ej⟩ := List.getElem?_eq_some_iff.mp hx
        rw [← ej]
        exact List.Nodup.idxOf_getElem d7 j hj
  · rcases List.mem_append.mp ho' with h | h
    · obtain ⟨w1, w2, w3, w4⟩ := A.ow.2 o' h
      exact ⟨.inl w1, .inl w2, .inl w3, fun x hx => .inl (w4 x hx)⟩
    · rw [List.mem_singleton] at h
      subst h
      exact ⟨.inr (by simp), .inr (by simp), .inr (by simp), fun x hx => .inr (by simp [hx])⟩
  · rcases ha with h | h
    · exact A.sub a h
    · exact (hsub a h).2
/-- the accounts as data -/
theorem OdAt.dp {F : Hp} {o : OA} {m : Od} (O : OdAt K H F o m) (s : Same F H) : Dp K H (.ref o.a) (odD m) := by
  obtain ⟨ts, r1, r2⟩ := O.hr
  refine .lst (SqL.of O.hd) (.cons (.lst (SqL.of O.hl) ?_) (.cons (.int _) (.cons (.lst (SqL.of r1) (r2.same s)) .nil)))
  have go : ∀ (xs : List Addr) (ls : List Ln), xs.length = ls.length → (∀ (i : Nat) x l, xs[i]? = some x → ls[i]? = some l → H x = some (.lst (LnV l))) → DpAll K H (xs.map V.ref) (ls.map lnD) := by
    intro xs
    induction xs with
    | nil => intro ls h _; cases ls with
      | nil => exact .nil
      | cons l r => simp at h
    | cons x r ih => intro ls h hx; cases ls with
      | nil => simp at h
      | cons l ls =>
        refine .cons (.lst (SqL.of (hx 0 x l rfl rfl)) ?_) (ih ls (by simpa using h) fun i y k h1 h2 => hx (i + 1) y k h1 h2)
        exact .cons (.str _) (.cons (.int _) (.cons (.int _) (.cons (.int _) (.cons (.int _) (.cons (.int _) (.cons (.int _) (.cons (.int _) .nil)))))))
  exact go _ _ O.len O.ln
theorem Acc.dp (A : Acc K fp own H p os M) : Dp K H (.ref p) (.list (M.map odD)) := by
  refine .lst (SqL.of A.top) ?_
  have go : ∀ (os : List OA) (M : List Od), os.length = M.length → (∀ (k : Nat) o m, os[k]? = some o → M[k]? = some m → OdAt K H (off fp H) o m) → DpAll K H (os.map fun o => V.ref o.a) (M.map odD) := by
    intro os
    induction os with
    | nil => intro M h _; cases M with
      | nil => exact .nil
      | cons m r => simp at h
    | cons o r ih => intro M h hx; cases M with
      | nil => simp at h
      | cons m M => exact .cons ((hx 0 o m rfl rfl).dp off_same) (ih M (by simpa using h) fun k o m h1 h2 => hx (k + 1) o m h1 h2)
  exact go _ _ A.len A.od
end
end Of

set_option Elab.async false
set_option linter.all false
set_option maxRecDepth 100000
set_option maxHeartbeats 4000000
/-! Texts: what is glued of single signs. -/
namespace Of
open PySem PyProof.Rows L2
theorem str_ext {x y : Str} (h : x.cps.toList = y.cps.toList) : x = y := by
  obtain ⟨a⟩ := x
  obtain ⟨b⟩ := y
  simp only at h
  rw [Array.toList_inj.mp h]
theorem cps_app (x y : Str) : (x ++ y).cps.toList = x.cps.toList ++ y.cps.toList := by
  show (x.cps ++ y.cps).toList = _
  exact Array.toList_append
theorem len_cps (x : Str) : x.length = x.cps.toList.length := by
  show x.cps.size = _
  exact Array.length_toList.symm
/-- a text of signs -/
def ofL (cs : List Nat) : Str := ⟨cs.toArray⟩
theorem ofL_cps (cs : List Nat) : (ofL cs).cps.toList = cs := rfl
theorem ofL_len (cs : List Nat) : (ofL cs).length = cs.length := by rw [len_cps]; rfl
theorem ofL_of (x : Str) : ofL x.cps.toList = x := str_ext rfl
theorem join_cons2 (sep x y : Str) (r : List Str) : (Txt.join sep (x :: y :: r)).cps.toList = x.cps.toList ++ sep.cps.toList ++ (Txt.join sep (y :: r)).cps.toList := by
  show (Builtin.Str.glued sep (x :: y :: r)).cps.toList = _ ++ (Builtin.Str.glued sep (y :: r)).cps.toList
  rw [StrLaws.glued_eq_join, StrLaws.glued_eq_join]
  show (x ++ sep ++ Str.join sep (y :: r)).cps.toList = _
  rw [cps_app, cps_app]
theorem join_one (sep x : Str) : Txt.join sep [x] = x := by
  show Builtin.Str.glued sep [x] = x
  rw [StrLaws.glued_eq_join]
  rfl
theorem join_nil (sep : Str) : Txt.join sep [] = ⟨#[]⟩ := by
  show Builtin.Str.glued sep [] = _
  rw [StrLaws.glued_eq_join]
  rfl
theorem join_signs {sep : Str} (hs : sep.cps.toList = []) : ∀ cs : List Nat, Txt.join sep (cs.map fun c => (⟨#[c]⟩ : Str)) = ofL cs
  | [] => join_nil sep
  | [c] => join_one sep _
  | c :: d :: r => str_ext (by
    have ih := join_signs hs (d :: r)
    rw [List.map_cons, List.map_cons, join_cons2, hs, ← List.map_cons (f := fun c => (⟨#[c]⟩ : Str)), ih]
    rfl)
theorem empty_cps : (("" : Str)).cps.toList = [] := by decide +kernel
theorem alpha_at : ∀ k : Nat, k < 26 → (("abcdefghijklmnopqrstuvwxyz" : Str)).cps.toList[k]? = some (97 + k) := by decide +kernel
theorem alpha_len : (("abcdefghijklmnopqrstuvwxyz" : Str)).length ≤ sizeLine := Nat.le_trans (by decide +kernel : _ ≤ 100) (by decide)
theorem alpha_mod (i : Int) : atI (("abcdefghijklmnopqrstuvwxyz" : Str)).cps.toList (i % 26) = some (97 + (i % 26).toNat) := by
  have h0 := Int.emod_nonneg i (show (26 : Int) ≠ 0 by decide)
  have h1 := Int.emod_lt_of_pos i (show (0 : Int) < 26 by decide)
  have h2 := alpha_at (i % 26).toNat (by omega)
  exact (congrArg (atI _) (Int.toNat_of_nonneg h0).symm).trans (atI_nat h2)
/-- a text of letters -/
structure IsItem (z : Str) : Prop where
  i0 : 1 ≤ z.length
  i1 : z.length ≤ 12
  ia : ∀ c ∈ z.cps.toList, 97 ≤ c ∧ c ≤ 122
theorem isItem_of {cs : List Nat} (h0 : 1 ≤ cs.length) (h1 : cs.length ≤ 12) (ha : ∀ c ∈ cs, 97 ≤ c ∧ c ≤ 122) : IsItem (ofL cs) :=
  ⟨by rw [ofL_len]; exact h0, by rw [ofL_len]; exact h1, ha⟩
end Of

set_option Elab.async false
set_option linter.all false
set_option maxRecDepth 100000
set_option maxHeartbeats 4000000
/-! What the program's own text wants: two more built-ins, a list's place read and written anew, a method of a class, enumerate within a comprehension. -/
namespace Of
open PySem PySem.Spec PyProof.Rows L2
structure Bl2 (mg : Str → Option Value) : Prop where
  m_enumerate : mg "enumerate" = none
  m_all : mg "all" = none
/-- xs[k], by values -/
def rGetL (K : PySem.W.Frag) : V → V → Hp → VK → Prop := fun o i H Q => ∃ p xs k v, o = .ref p ∧ i = .int k ∧ SqL K H p xs ∧ 0 ≤ k ∧ atI xs k = some v ∧ Q v H
theorem get_list {X : Cx} : PGet X (rGetL X.K) := by
  intro pins s σ H o i ov iv Q I ro ri h
  obtain ⟨p, xs, k, z, rfl, rfl, hq, h0, he, q⟩ := h
  cases ro
  obtain ⟨t, rfl⟩ := ri
  obtain ⟨its, r, pl, hz⟩ := I.list hq
  obtain ⟨j, h1, h2, h3, h4, h5⟩ := atI_get he
  obtain ⟨w, ew, rw'⟩ := r.get h2
  have hl := r.length
  have hn := line63
  have hj : k.toNat = j := by
    rw [seqIndex_of h0 h5] at h1
    exact Option.some.inj h1
  exact wpAny_getItem_list pl.isList h0 (by omega) (by rw [hj]; simpa using ew) ⟨z, H, I, rw', q⟩
theorem kg_list {X : Cx} (K : PySem.W.Frag) (h : X.K = K := by rfl) : PGet X (rGetL K) := h ▸ get_list
/-! ### a method of a class -/
structure MCal (P : Program) (w : World) (K : PySem.W.Frag) (mg : Str → Option Value) (base : Heap) (CX : CXT) (k : Nat) (C : Addr) (m : Str) (ps : List Str) (sp : Sp) : Prop where
  cls : Cls K C
  ex : ∃ f fd, Meth K C m f ∧ FnOk P w K mg base CX k f fd ps sp ∧ Binds K fd ps []
/-- an instance without an attribute of the method's name -/
def IsI (C : Addr) (m : Str) (H : Hp) (x : V) : Prop := ∃ a dx fs, x = .ref a ∧ H a = some (.ins C dx fs) ∧ fs.lookup m = none
def tM (C : Addr) (m : Str) (sp : Sp) (E : XK) (ta : TE) (t : TA) : TE := fun σ H Q => ta σ H fun x H1 => IsI C m H1 x ∧ t σ H1 fun vs H2 => sp (x :: vs) H2 Q E
def tMS (C : Addr) (m : Str) (sp : Sp) (E : L2.St → XK) (ta : TE) (t : TA) : TE := fun σ H Q => ta σ H fun x H1 => IsI C m H1 x ∧ t σ H1 fun vs H2 => sp (x :: vs) H2 Q (E σ)
section
variable {X : Cx} {CX : CXT} {k : Nat} {C : Addr} {ps : List Str} {sp : Sp} {E : XK} {ES : L2.St → XK} {m : Str} {p pos apos : Pos} {e o : Expr} {es : List Expr} {ta : TE} {t : TA}
theorem MCal.mono {P : Program} {w : World} {K : PySem.W.Frag} {mg : Str → Option Value} {base : Heap} {j : Nat} (c : MCal P w K mg base CX j C m ps sp) (h : j ≤ k) : MCal P w K mg base CX k C m ps sp := by
  obtain ⟨f, fd, hm, F, r⟩ := c.ex
  exact ⟨c.cls, f, fd, hm, F.mono h, r⟩
theorem MCal.imp {P : Program} {w : World} {K : PySem.W.Frag} {mg : Str → Option Value} {base : Heap} {sp' : Sp} (c : MCal P w K mg base CX k C m ps sp) (h : ∀ vs H Q E, sp' vs H Q E → sp vs H Q E) : MCal P w K mg base CX k C m ps sp' := by
  obtain ⟨f, fd, hm, F, r⟩ := c.ex
  exact ⟨c.cls, f, fd, hm, F.imp h, r⟩
theorem pe_m {pl : Sem Bool} (B : MCal X.prog X.w X.K X.mg X.base CX k C m ps sp) (he : PE X o ta) (hr : Room k X.A) (hx : Passes CX X E) (ha : PA X (e :: es) t)
    (hst : starEach (e :: es) X.env = (false, eval e X.env) :: starEach es X.env := by rfl) (hpl : (backTo pos (starEach es X.env)).any (·.1) = false := by rfl)
    (ht : eval (.Call (.Attribute o m apos) (e :: es) [] pos) X.env = (do
      let ov ← eval o X.env
      standAt apos.atName
      let (f, first) ← holding [ov] (getMethod ov m pl)
      callWith pos f first (backTo pos (starEach (e :: es) X.env)) (backToKw pos (keywordEach [] X.env))) := by rfl) :
    PE X (.Call (.Attribute o m apos) (e :: es) [] pos) (tM C m sp E ta t) := by
  obtain ⟨f, fd, hm, F, hb⟩ := B.ex
  refine ⟨fun pins s σ H Q I h => ?_⟩
  refine PySem.W.methodCall_KW (pl := pl) (thn (he.run pins s σ H _ I h) fun u s1 ⟨x, H1, I1, rx, ⟨a, dx, fs, ex, ea, l⟩, q⟩ => ?_) ht
  subst ex
  obtain rfl : u = Value.ref a := rx
  refine getmeth_ok I1 ea B.cls hm l ?_
  refine PySem.W.callWith_K (first := [.ref a]) (h₀ := X.base) I.ok.mod.kin hm.kp (thn (ha.run pos pins s1 σ H1 _ I1 q) fun us s2 ⟨vs, H2, I2, r, q2⟩ => ⟨I2.kIn, ?_⟩) hst hpl
  exact run_fn (us := .ref a :: us) (vs := .ref a :: vs) (dvs := []) F hr hb .nil hx I2 (.cons rfl r) (by rw [List.append_nil]; exact q2)
theorem pe_m0 {pl : Sem Bool} (B : MCal X.prog X.w X.K X.mg X.base CX k C m ps sp) (he : PE X o ta) (hr : Room k X.A) (hx : Passes CX X E)
    (ht : eval (.Call (.Attribute o m apos) [] [] pos) X.env = (do
      let ov ← eval o X.env
      standAt apos.atName
      let (f, first) ← holding [ov] (getMethod ov m pl)
      callWith pos f first (backTo pos (starEach [] X.env)) (backToKw pos (keywordEach [] X.env))) := by rfl) :
    PE X (.Call (.Attribute o m apos) [] [] pos) (tM C m sp E ta tNil) := by
  obtain ⟨f, fd, hm, F, hb⟩ := B.ex
  refine ⟨fun pins s σ H Q I h => ?_⟩
  refine PySem.W.methodCall_KW (pl := pl) (thn (he.run pins s σ H _ I h) fun u s1 ⟨x, H1, I1, rx, ⟨a, dx, fs, ex, ea, l⟩, q⟩ => ?_) ht
  subst ex
  obtain rfl : u = Value.ref a := rx
  refine getmeth_ok I1 ea B.cls hm l ?_
  exact PySem.W.callWith_K0 (first := [.ref a]) I1.kIn hm.kp (run_fn (us := [.ref a]) (vs := [.ref a]) (dvs := []) F hr hb .nil hx I1 (.cons rfl .nil) q)
end
/-! ### enumerate within a comprehension -/
theorem wipe2 {σ : L2.St} {i j : Nat} {x y : Option V} (h : i ≠ j) : wipe (((wipe σ [i, j]).set i x).set j y) [i, j] = wipe σ [i, j] := by
  show (((((σ.set j none).set i none).set i x).set j y).set j none).set i none = (σ.set j none).set i none
  rw [List.set_set, List.set_set, List.set_comm x none h, List.set_set, List.set_set]
/-- the places of the ints that c takes, from k on -/
def placesOf (c : Int → Bool) (k : Nat) : List Int → List Nat
  | [] => []
  | x :: r => if c x = true then k :: placesOf c (k + 1) r else placesOf c (k + 1) r
theorem placesOf_app (c : Int → Bool) (x : Int) : ∀ (l : List Int) (k : Nat), placesOf c k (l ++ [x]) = placesOf c k l ++ (if c x = true then [k + l.length] else [])
  | [], k => by
    show (if c x = true then [k] else []) = _
    simp [placesOf]
  | y :: l, k => by
    have ih := placesOf_app c x l (k + 1)
    show (if c y = true then k :: placesOf c (k + 1) (l ++ [x]) else placesOf c (k + 1) (l ++ [x])) = (if c y = true then k :: placesOf c (k + 1) l else placesOf c (k + 1) l) ++ _
    rw [ih]
    have e : k + 1 + l.length = k + (y :: l).length := by simp only [List.length_cons]; omega
    rw [e]
    split <;> rfl
theorem placesOf_len (c : Int → Bool) : ∀ (l : List Int) (k : Nat), (placesOf c k l).length ≤ l.length
  | [], _ => Nat.le_refl _
  | y :: l, k => by
    have ih := placesOf_len c l (k + 1)
    unfold placesOf
    split <;> simp only [List.length_cons] <;> omega
/-- [place for place, x in enumerate(xs) if t] over a list of ints -/
theorem lcE_filter {K : PySem.W.Frag} {tt : TT} {te : TE} {σ : L2.St} {i j : Nat} {a D : Addr} {H1 : Hp} {Qd : Hp → Prop} {ns : List Int} (c : Int → Bool) (hij : i ≠ j) (hz : ns.length ≤ 100000) (hS : SqL K H1 a (ns.map V.int)) (hD : H1 D = none)
    (test : ∀ (k : Nat) (x : Int) (H : Hp) (R : Bool → Hp → Prop), Same H1 H → R (c x) H → tt (((wipe σ [i, j]).set i (some (.int (k : Nat)))).set j (some (.int x))) H R)
    (turn : ∀ (k : Nat) (x : Int) (H : Hp) (R : VK), Same H1 H → R (.int (k : Nat)) H → te (((wipe σ [i, j]).set i (some (.int (k : Nat)))).set j (some (.int x))) H R)
    (fin : ∀ H', Same H1 H' → H' D = some (.lst ((placesOf c 0 ns).map fun k : Nat => V.int (k : Nat))) → Qd H') :
    ∃ W : Nat → Nat → Hp → Prop, (∃ m, W 0 m (upd H1 D (.lst []))) ∧ ∀ n m H, W n m H →
      ((Ite K a).stop n H ∧ Qd H) ∨ ((Ite K a).go n H ∧ ∃ Nx : Hp → Prop, (∀ H', Nx H' → ∃ m', m' < m ∧ W (n + 1) m' H') ∧ ∀ x H', (Ite K a).yld n H x H' → gTup K 2 (gCons (gName i) (gCons (gName j) gNil)) x (wipe σ [i, j]) H' fun σ2 H2 => wipe σ2 [i, j] = wipe σ [i, j] ∧ tt σ2 H2 fun b H3 =>
        if b = true then te σ2 H3 fun y H4 => ∃ acc, H4 D = some (.lst acc) ∧ acc.length < sizeLine ∧ Nx (upd H4 D (.lst (acc ++ [y]))) else Nx H3) := by
  refine ⟨fun n m H => m = ns.length - n ∧ n ≤ ns.length ∧ Same H1 H ∧ H D = some (.lst ((placesOf c 0 (ns.take n)).map fun k : Nat => V.int (k : Nat))), ⟨ns.length, by simp, Nat.zero_le _, same_new hD, upd_same⟩, ?_⟩
  rintro n m H ⟨rfl, hn, s, hd⟩
  have q := same_l s hS
  by_cases hlt : n < ns.length
  · have e1 : (ns.map V.int)[n]? = some (.int ns[n]) := by rw [List.getElem?_map, List.getElem?_eq_getElem hlt]; rfl
    refine .inr ⟨⟨_, _, q, e1⟩, fun H' => Same H1 H' ∧ H' D = some (.lst ((placesOf c 0 (ns.take (n + 1))).map fun k : Nat => V.int (k : Nat))), fun H' p' => ⟨ns.length - (n + 1), by omega, rfl, hlt, p'⟩, fun x H' y => ?_⟩
    obtain ⟨T, v, rfl, hT, rfl, hv⟩ := y
    have hv := hv _ q
    rw [e1] at hv
    have hv := Option.some.inj hv
    subst hv
    have s1 : Same H (upd H T (.tup [.int (n : Nat), .int ns[n]])) := same_new hT
    have hd1 := s1 _ _ hd
    have e2 : ns.take (n + 1) = ns.take n ++ [ns[n]] := take_succ' (List.getElem?_eq_getElem hlt)
    have e3 : (ns.take n).length = n := by rw [List.length_take]; omega
    refine ⟨T, _, rfl, SqT.of upd_same, rfl, _, _, rfl, _, _, rfl, rfl, wipe2 hij, ?_⟩
    refine test n ns[n] _ _ (s.trans s1) ?_
    refine ite2 (fun h => ?_) (fun h => ?_)
    · refine turn n ns[n] _ _ (s.trans s1) ⟨_, hd1, Evl.sz_lt ?_, same_mut (s.trans s1) hD, ?_⟩
      · have := placesOf_len c (ns.take n) 0
        rw [List.length_map]
        omega
      · rw [upd_same, e2, placesOf_app, h, if_pos rfl, e3, Nat.zero_add, List.map_append]
        rfl
    · refine ⟨s.trans s1, ?_⟩
      rw [hd1, e2, placesOf_app, if_neg h, List.append_nil]
  · have e : n = ns.length := by omega
    subst e
    rw [List.take_length] at hd
    exact .inl ⟨⟨_, q, by simp⟩, fin H s hd⟩
end Of

set_option Elab.async false
set_option linter.all false
set_option maxRecDepth 100000
set_option maxHeartbeats 4000000
namespace Of
open PySem PyProof.Rows L2
local macro_rules | `(tactic| walk_at "go") => `(tactic| repeat (first
  | refine ⟨_, rfl, ?_⟩
  | refine ⟨_, _, rfl, rfl, ?_⟩
  | refine ⟨_, _, rfl, ?_⟩
  | refine And.intro rfl ?_
  | refine And.intro ⟨_, rfl⟩ ?_
  | refine And.intro (Evl.sz_of (of_decide_eq_true rfl)) ?_
  | (refine ite_yes ?_ ?_; decide +kernel)
  | (refine ite_no ?_ ?_; decide +kernel)
  | (refine And.intro ?_ ?_; (try dsimp only); omega)
  | (refine And.intro (And.intro ?_ ?_) ?_; omega; omega)
  | (refine And.intro (Or.inr (And.intro ?_ ?_)) ?_; omega; omega)
  | (refine And.intro (Or.inl (And.intro ?_ ?_)) ?_; omega; omega)
  | (refine And.intro (And.intro ?_ (And.intro ?_ ?_)) ?_; decide; decide; decide)
  | (refine And.intro ?_ ?_; (with_reducible (show (0 : Int) < (10 : Int) ^ _)); decide)))
local macro_rules | `(tactic| walk_at "fork") => `(tactic| (repeat' (refine ite2 (fun h => ?_) (fun h => ?_) <;> walk_at "go")))
local macro_rules | `(tactic| walk_at "gox") => `(tactic| repeat (first
  | refine ⟨_, rfl, ?_⟩
  | refine ⟨_, _, rfl, rfl, ?_⟩
  | refine ⟨_, _, rfl, ?_⟩
  | refine And.intro rfl ?_
  | refine And.intro ⟨_, rfl⟩ ?_
  | refine And.intro (Evl.sz_of (of_decide_eq_true rfl)) ?_
  | refine ite_bang ?_
  | (refine ite_yes ?_ ?_; (first | assumption | (decide +kernel)))
  | (refine ite_no ?_ ?_; (first | assumption | (decide +kernel)))
  | (refine And.intro ?_ ?_; (try dsimp only); omega)
  | (refine And.intro (And.intro ?_ ?_) ?_; omega; omega)
  | (refine And.intro (Or.inr (And.intro ?_ ?_)) ?_; omega; omega)
  | (refine And.intro (Or.inl (And.intro ?_ ?_)) ?_; omega; omega)
  | (refine And.intro (And.intro ?_ (And.intro ?_ ?_)) ?_; decide; decide; decide)
  | (refine And.intro ?_ ?_; (with_reducible (show (0 : Int) < (10 : Int) ^ _)); decide)
  | (refine ⟨_, ?_, _, ?_, rfl, rfl, ?_, ?_, ?_⟩; rotate_left 2; (first | assumption | exact SqL.of (by assumption)); rfl)
  | (refine ⟨_, ?_, rfl, Or.inl ?_, ?_⟩; rotate_left 1; (first | assumption | exact SqL.of (by assumption)))
  | (refine ⟨_, ?_, rfl, Or.inr ?_, ?_⟩; rotate_left 1; assumption)))
local macro_rules | `(tactic| walk_at "goz") => `(tactic| repeat (first
  | refine ⟨_, rfl, ?_⟩
  | refine ⟨_, _, rfl, rfl, ?_⟩
  | refine ⟨_, _, rfl, ?_⟩
  | refine And.intro rfl ?_
  | refine And.intro ⟨_, rfl⟩ ?_
  | refine And.intro (Evl.sz_of (of_decide_eq_true rfl)) ?_
  | refine ite_bang ?_
  | refine Or.inr ⟨_, rfl, ?_⟩
  | refine Or.inl ⟨_, rfl, ?_⟩
  | (refine ite_yes ?_ ?_; (first | assumption | (decide +kernel)))
  | (refine ite_no ?_ ?_; (first | assumption | (decide +kernel)))
  | (refine And.intro ?_ ?_; (try dsimp only); omega)
  | (refine And.intro (And.intro ?_ ?_) ?_; omega; omega)
  | (refine And.intro (Or.inr (And.intro ?_ ?_)) ?_; omega; omega)
  | (refine And.intro (Or.inl (And.intro ?_ ?_)) ?_; omega; omega)
  | (refine And.intro (And.intro ?_ (And.intro ?_ ?_)) ?_; decide; decide; decide)
  | (refine And.intro ?_ ?_; (with_reducible (show (0 : Int) < (10 : Int) ^ _)); decide)
  | (refine ⟨_, ?_, _, ?_, rfl, rfl, ?_, ?_, ?_⟩; rotate_left 2; (first | assumption | exact SqL.of (by assumption)); (first | assumption | rfl))
  | (refine ⟨_, ?_, rfl, Or.inl ?_, ?_⟩; rotate_left 1; (first | assumption | exact SqL.of (by assumption)))
  | (refine ⟨_, ?_, rfl, Or.inr ?_, ?_⟩; rotate_left 1; assumption)))
def top (i : Nat) : Stmt := PySem.Challenge.pw_orderflow_k02_covers_matched.main.body.getD i (.Pass ⟨0, 0, 0, 0⟩)
abbrev s_matched : Stmt := top 1
abbrev s_cell_at : Stmt := top 3
abbrev s_whole : Stmt := top 4
abbrev s_row_of : Stmt := top 5
abbrev s_ahead_whole : Stmt := top 6
abbrev s_is_triple : Stmt := top 7
abbrev s_matched_well : Stmt := top 8
abbrev s_law : Stmt := top 9
section
variable {P : Program} {w : World} {K : PySem.W.Frag} {mg : Str → Option Value} {base : Heap}
abbrev N_cell_at : List Str := ["_law_script", "_law_k"]
abbrev P_cell_at : List Str := ["_law_script", "_law_k"]
theorem sc_cell_at : FnScope N_cell_at P_cell_at (defScope s_cell_at) := ⟨rfl, rfl, rfl, by decide +kernel, rfl, by decide +kernel, by decide +kernel⟩
def cellAt (ns : List Int) (k : Nat) : Int := ns.getD k 0
def sp_cell_at (K : PySem.W.Frag) : Sp := fun vs H Q _ => ∃ (a : Addr) (ns : List Int) (k : Nat), vs = [.ref a, .int (k : Int)] ∧ SqL K H a (ns.map V.int) ∧ Q (.int (cellAt ns k)) H
theorem c_cell_at (T : Blt mg) (D : DefAt K mg "_law_cell_at" s_cell_at P_cell_at) : Cal P w K mg base CX0 1 "_law_cell_at" P_cell_at (sp_cell_at K) := by
  refine cal_of D sc_cell_at (fun vs H Q E h => ?_) (fun f cdv A outer s H vs Q E hr h => ?_)
  · obtain ⟨a, ns, k, rfl, _⟩ := h
    rfl
  · obtain ⟨a, ns, k, rfl, hS, q⟩ := h
    refine ⟨_, (pss_cons (ps_if (pt_cmpR op_lt (pv 1) (pe_callB (kc_len K) (by rfl) T.m_len PySem.boot_len (pa_cons (pv 0) pa_nil)) (nomark _))
        (pss_one (ps_ret (pe_ix (kx_list K) (pv 0) (pv 1) (fun _ _ => rfl))))
        pss_nil)
      (pss_one (ps_ret pe_int))), ?_⟩
    walk_at "go"
    refine ⟨a, _, rfl, Or.inl hS, ?_⟩
    walk_at "go"
    refine ite2 (fun h => ?_) (fun h => ?_)
    · have h := of_decide_eq_true h
      rw [List.length_map] at h
      have h' : k < ns.length := by omega
      walk_at "go"
      refine ⟨a, _, _, .int (cellAt ns k), rfl, rfl, hS, atI_nat ?_, q⟩
      rw [List.getElem?_map, List.getElem?_eq_getElem h']
      simp [cellAt, h']
    · have h : ¬ ((k : Int) < ((ns.map V.int).length : Nat)) := fun z => h (decide_eq_true z)
      rw [List.length_map] at h
      have e : cellAt ns k = 0 := by
        unfold cellAt
        rw [List.getD_eq_getElem?_getD, List.getElem?_eq_none (by omega)]
        rfl
      rw [e] at q
      exact q
/-- an int is whole -/
abbrev N_whole : List Str := ["_law_found"]
abbrev P_whole : List Str := ["_law_found"]
theorem sc_whole : FnScope N_whole P_whole (defScope s_whole) := ⟨rfl, rfl, rfl, by decide +kernel, rfl, by decide +kernel, by decide +kernel⟩
def sp_whole : Sp := fun vs H Q _ => ∃ (i : Int), vs = [.int i] ∧ Q (.bl true) H
theorem c_whole (T : Blt mg) (D : DefAt K mg "_law_whole" s_whole P_whole) : Cal P w K mg base CX0 1 "_law_whole" P_whole sp_whole := by
  refine cal_of D sc_whole (fun vs H Q E h => ?_) (fun f cdv A outer s H vs Q E hr h => ?_)
  · obtain ⟨i, rfl, _⟩ := h
    rfl
  · obtain ⟨i, rfl, q⟩ := h
    refine ⟨_, (pss_one (ps_ret (pe_and (pe_callB (kc_isi K) (by rfl) T.m_isinstance (by decide +kernel) (pa_cons (pv 0) (pa_cons (pe_bltn (v := .ty "int") (by rfl) T.m_int PyProof.Rows.boot_int rfl) pa_nil))) (pe_one (pe_not (pe_callB (kc_isi K) (by rfl) T.m_isinstance (by decide +kernel) (pa_cons (pv 0) (pa_cons (pe_bltn (v := .ty "bool") (by rfl) T.m_bool PyProof.Rows.boot_bool rfl) pa_nil)))))))), ?_⟩
    walk_at "go"
    refine ⟨_, _, _, _, _, rfl, .ty _, .base (.int i), kit_ty (r := true) (by decide +kernel), ?_⟩
    walk_at "go"
    walk_at "go"
    refine ⟨_, _, _, _, _, rfl, .ty _, .base (.int i), kit_ty (r := false) (by decide +kernel), ?_⟩
    exact ⟨_, rfl, q⟩
end
/-! ### covers matched with debts: the mathematics -/
abbrev Tri := Nat × Nat × Int
/-- the first debt gets from the first cover as much as goes, and so on -/
def mgo : List (Nat × Int) → List (Nat × Int) → List Tri
  | [], _ => []
  | _ :: _, [] => []
  | (i, d) :: ds, (j, c) :: cs =>
    if d < c then (i, j, d) :: mgo ds ((j, c - d) :: cs)
    else if c < d then (i, j, c) :: mgo ((i, d - c) :: ds) cs
    else (i, j, d) :: mgo ds cs
  termination_by ds cs => ds.length + cs.length
  decreasing_by all_goals (simp only [List.length_cons]; omega)
/-- the places with a change above nought, and how much -/
def debtsFrom (k : Nat) : List Int → List (Nat × Int)
  | [] => []
  | x :: r => if 0 < x then (k, x) :: debtsFrom (k + 1) r else debtsFrom (k + 1) r
def coversFrom (k : Nat) : List Int → List (Nat × Int)
  | [] => []
  | x :: r => if x < 0 then (k, -x) :: coversFrom (k + 1) r else coversFrom (k + 1) r
def matchL (row : List Int) : List Tri := mgo (debtsFrom 0 row) (coversFrom 0 row)
/-- what the law looks at, triple by triple: what is covered so far, the pair ahead -/
def Chk (row : List Int) : List Int → Int × Int → List Tri → Prop
  | _, _, [] => True
  | ps, last, (i, j, c) :: r => i < row.length ∧ j < row.length ∧ 0 < row.getD i 0 ∧ row.getD j 0 < 0 ∧ 0 < c ∧ ((i : Int), (j : Int)) ≠ last ∧
    (∀ k, k < i → 0 < row.getD k 0 → ps.getD k 0 = row.getD k 0) ∧ (∀ k, k < j → row.getD k 0 < 0 → ps.getD k 0 = -row.getD k 0) ∧
    ps.getD i 0 + c ≤ row.getD i 0 ∧ ps.getD j 0 + c ≤ -row.getD j 0 ∧ Chk row ((ps.set i (ps.getD i 0 + c)).set j (ps.getD j 0 + c)) ((i : Int), (j : Int)) r
/-- what a list of places with their parts has at a place -/
def remOf (l : List (Nat × Int)) (k : Nat) : Int := ((l.find? fun p => p.1 == k).map (·.2)).getD 0
def Asc : List (Nat × Int) → Prop
  | [] => True
  | p :: r => (∀ q ∈ r, p.1 < q.1) ∧ Asc r
theorem remOf_cons (i : Nat) (d : Int) (l : List (Nat × Int)) (k : Nat) : remOf ((i, d) :: l) k = if i = k then d else remOf l k := by
  unfold remOf
  rw [List.find?_cons]
  by_cases h : i = k
  · subst h; simp
  · have h' : (i == k) = false := by simpa using h
    simp only [h', if_neg h]
theorem remOf_none {l : List (Nat × Int)} {k : Nat} (h : ∀ q ∈ l, q.1 ≠ k) : remOf l k = 0 := by
  unfold remOf
  have : l.find? (fun p => p.1 == k) = none := by
    rw [List.find?_eq_none]
    intro q hq
    simpa using h q hq
  rw [this]; rfl
theorem debts_ge : ∀ (row : List Int) (k : Nat), ∀ q ∈ debtsFrom k row, k ≤ q.1 ∧ 0 < q.2
  | [], _, q, h => by cases h
  | x :: r, k, q, h => by
    unfold debtsFrom at h
    split at h
    · rcases List.mem_cons.mp h with rfl | h
      · exact ⟨Nat.le_refl _, by assumption⟩
      · have := debts_ge r (k + 1) q h; exact ⟨by omega, this.2⟩
    · have := debts_ge r (k + 1) q h; exact ⟨by omega, this.2⟩
theorem covers_ge : ∀ (row : List Int) (k : Nat), ∀ q ∈ coversFrom k row, k ≤ q.1 ∧ 0 < q.2
  | [], _, q, h => by cases h
  | x :: r, k, q, h => by
    unfold coversFrom at h
    split at h
    · rcases List.mem_cons.mp h with rfl | h
      · exact ⟨Nat.le_refl _, by show (0 : Int) < -x; omega⟩
      · have := covers_ge r (k + 1) q h; exact ⟨by omega, this.2⟩
    · have := covers_ge r (k + 1) q h; exact ⟨by omega, this.2⟩
theorem debts_asc : ∀ (row : List Int) (k : Nat), Asc (debtsFrom k row)
  | [], _ => True.intro
  | x :: r, k => by
    unfold debtsFrom
    split
    · exact ⟨fun q hq => by have := (debts_ge r (k + 1) q hq).1; show k < q.1; omega, debts_asc r (k + 1)⟩
    · exact debts_asc r (k + 1)
theorem covers_asc : ∀ (row : List Int) (k : Nat), Asc (coversFrom k row)
  | [], _ => True.intro
  | x :: r, k => by
    unfold coversFrom
    split
    · exact ⟨fun q hq => by have := (covers_ge r (k + 1) q hq).1; show k < q.1; omega, covers_asc r (k + 1)⟩
    · exact covers_asc r (k + 1)
theorem debts_rem : ∀ (row : List Int) (k n : Nat), remOf (debtsFrom k row) (k + n) = if 0 < row.getD n 0 then row.getD n 0 else 0
  | [], k, n => by simp [debtsFrom, remOf]
  | x :: r, k, 0 => by
    have h0 : remOf (debtsFrom (k + 1) r) k = 0 := remOf_none fun q hq => by have := (debts_ge r (k + 1) q hq).1; omega
    show remOf (debtsFrom k (x :: r)) k = _
    unfold debtsFrom
    by_cases h : 0 < x
    · rw [if_pos h, remOf_cons, if_pos rfl]; simp [h]
    · rw [if_neg h, h0]; simp [h]
  | x :: r, k, n + 1 => by
    have ih := debts_rem r (k + 1) n
    have e : k + (n + 1) = k + 1 + n := by omega
    unfold debtsFrom
    rw [e]
    split
    · rw [remOf_cons, if_neg (by omega), ih]; simp
    · rw [ih]; simp
theorem covers_rem : ∀ (row : List Int) (k n : Nat), remOf (coversFrom k row) (k + n) = if row.getD n 0 < 0 then -row.getD n 0 else 0
  | [], k, n => by simp [coversFrom, remOf]
  | x :: r, k, 0 => by
    have h0 : remOf (coversFrom (k + 1) r) k = 0 := remOf_none fun q hq => by have := (covers_ge r (k + 1) q hq).1; omega
    show remOf (coversFrom k (x :: r)) k = _
    unfold coversFrom
    by_cases h : x < 0
    · rw [if_pos h, remOf_cons, if_pos rfl]; simp [h]
    · rw [if_neg h, h0]; simp [h]
  | x :: r, k, n + 1 => by
    have ih := covers_rem r (k + 1) n
    have e : k + (n + 1) = k + 1 + n := by omega
    unfold coversFrom
    rw [e]
    split
    · rw [remOf_cons, if_neg (by omega), ih]; simp
    · rw [ih]; simp
/-- between two triples -/
structure MInv (row ps : List Int) (last : Int × Int) (ds cs : List (Nat × Int)) : Prop where
  len : ps.length = row.length
  ad : Asc ds
  ac : Asc cs
  pd : ∀ q ∈ ds, 0 < q.2
  pc : ∀ q ∈ cs, 0 < q.2
  dd : ∀ k, 0 < row.getD k 0 → ps.getD k 0 + remOf ds k = row.getD k 0
  cc : ∀ k, row.getD k 0 < 0 → ps.getD k 0 + remOf cs k = -row.getD k 0
  sd : ∀ q ∈ ds, 0 < row.getD q.1 0
  sc : ∀ q ∈ cs, row.getD q.1 0 < 0
  ne : (∀ q ∈ ds, (q.1 : Int) ≠ last.1) ∨ (∀ q ∈ cs, (q.1 : Int) ≠ last.2)
theorem getD_in {row : List Int} {k : Nat} (h : row.getD k 0 ≠ 0) : k < row.length := by
  rcases Nat.lt_or_ge k row.length with z | z
  · exact z
  · exact absurd (by rw [List.getD_eq_getElem?_getD, List.getElem?_eq_none z]; rfl) h
theorem getD_set {ps : List Int} {i k : Nat} {v : Int} (h : i < ps.length) : (ps.set i v).getD k 0 = if i = k then v else ps.getD k 0 := by
  rw [List.getD_eq_getElem?_getD, List.getD_eq_getElem?_getD]
  by_cases e : i = k
  · subst e; rw [if_pos rfl, List.getElem?_set_self h]; rfl
  · rw [if_neg e, List.getElem?_set_ne e]
/-- the step that all three ways share: c is taken from the first debt and from the first cover -/
theorem chk_step {row ps : List Int} {last : Int × Int} {i j : Nat} {d c p : Int} {ds cs ds' cs' : List (Nat × Int)} {r : List Tri} (I : MInv row ps last ((i, d) :: ds) ((j, c) :: cs)) (hp : 0 < p) (hd : p ≤ d) (hc : p ≤ c)
    (e1 : ds' = if p = d then ds else (i, d - p) :: ds) (e2 : cs' = if p = c then cs else (j, c - p) :: cs) (hx : p = d ∨ p = c)
    (h : MInv row ((ps.set i (ps.getD i 0 + p)).set j (ps.getD j 0 + p)) ((i : Int), (j : Int)) ds' cs' → Chk row ((ps.set i (ps.getD i 0 + p)).set j (ps.getD j 0 + p)) ((i : Int), (j : Int)) r) : Chk row ps last ((i, j, p) :: r) := by
  have hi := I.sd _ List.mem_cons_self
  have hj := I.sc _ List.mem_cons_self
  have hi : 0 < row.getD i 0 := hi
  have hj : row.getD j 0 < 0 := hj
  have li : i < row.length := getD_in (by omega)
  have lj : j < row.length := getD_in (by omega)
  have nij : i ≠ j := fun e => by subst e; omega
  have ai := I.ad
  have aj := I.ac
  have ri := I.dd i hi
  have rj := I.cc j hj
  rw [remOf_cons, if_pos rfl] at ri rj
  have gi : ∀ k, ((ps.set i (ps.getD i 0 + p)).set j (ps.getD j 0 + p)).getD k 0 = if j = k then ps.getD j 0 + p else if i = k then ps.getD i 0 + p else ps.getD k 0 := fun k => by
    rw [getD_set (by rw [List.length_set]; exact I.len ▸ lj), getD_set (by rw [I.len]; exact li)]
  have rd0 : remOf ds i = 0 := remOf_none fun q hq => by have : i < q.1 := ai.1 q hq; omega
  have rc0 : remOf cs j = 0 := remOf_none fun q hq => by have : j < q.1 := aj.1 q hq; omega
  refine ⟨li, lj, hi, hj, hp, fun e => ?_, fun k hk hr => ?_, fun k hk hr => ?_, by omega, by omega, h ?_⟩
  · rcases I.ne with z | z
    · exact z _ List.mem_cons_self (congrArg Prod.fst e)
    · exact z _ List.mem_cons_self (congrArg Prod.snd e)
  · have := I.dd k hr
    rw [remOf_cons, if_neg (by omega), remOf_none fun q hq => by have : i < q.1 := ai.1 q hq; omega] at this
    omega
  · have := I.cc k hr
    rw [remOf_cons, if_neg (by omega), remOf_none fun q hq => by have : j < q.1 := aj.1 q hq; omega] at this
    omega
  · have remd : ∀ k, remOf ds' k = if i = k then d - p else remOf ds k := fun k => by
      rw [e1]
      by_cases e : p = d
      · rw [if_pos e]
        by_cases ek : i = k
        · subst ek; rw [if_pos rfl, rd0]; omega
        · rw [if_neg ek]
      · rw [if_neg e, remOf_cons]
    have remc : ∀ k, remOf cs' k = if j = k then c - p else remOf cs k := fun k => by
      rw [e2]
      by_cases e : p = c
      · rw [if_pos e]
        by_cases ek : j = k
        · subst ek; rw [if_pos rfl, rc0]; omega
        · rw [if_neg ek]
      · rw [if_neg e, remOf_cons]
    have md : ∀ q ∈ ds', q ∈ ds ∨ (q = (i, d - p) ∧ p ≠ d) := fun q hq => by
      rw [e1] at hq
      split at hq
      · exact .inl hq
      · rcases List.mem_cons.mp hq with rfl | hq
        · exact .inr ⟨rfl, by assumption⟩
        · exact .inl hq
    have mc : ∀ q ∈ cs', q ∈ cs ∨ (q = (j, c - p) ∧ p ≠ c) := fun q hq => by
      rw [e2] at hq
      split at hq
      · exact .inl hq
      · rcases List.mem_cons.mp hq with rfl | hq
        · exact .inr ⟨rfl, by assumption⟩
        · exact .inl hq
    refine ⟨by rw [List.length_set, List.length_set]; exact I.len, ?_, ?_, fun q hq => ?_, fun q hq => ?_, fun k hr => ?_, fun k hr => ?_, fun q hq => ?_, fun q hq => ?_, ?_⟩
    · rw [e1]; split
      · exact ai.2
      · exact ⟨ai.1, ai.2⟩
    · rw [e2]; split
      · exact aj.2
      · exact ⟨aj.1, aj.2⟩
    · rcases md q hq with z | ⟨rfl, z⟩
      · exact I.pd q (List.mem_cons_of_mem _ z)
      · show 0 < d - p; omega
    · rcases mc q hq with z | ⟨rfl, z⟩
      · exact I.pc q (List.mem_cons_of_mem _ z)
      · show 0 < c - p; omega
    · rw [gi, remd]
      have nk : j ≠ k := fun e => by subst e; omega
      rw [if_neg nk]
      by_cases ek : i = k
      · subst ek; rw [if_pos rfl, if_pos rfl]; omega
      · rw [if_neg ek, if_neg ek]
        have := I.dd k hr
        rw [remOf_cons, if_neg ek] at this
        exact this
    · rw [gi, remc]
      have nk : i ≠ k := fun e => by subst e; omega
      by_cases ek : j = k
      · subst ek; rw [if_pos rfl, if_pos rfl]; omega
      · rw [if_neg ek, if_neg ek, if_neg nk]
        have := I.cc k hr
        rw [remOf_cons, if_neg ek] at this
        exact this
    · rcases md q hq with z | ⟨rfl, _⟩
      · exact I.sd q (List.mem_cons_of_mem _ z)
      · exact hi
    · rcases mc q hq with z | ⟨rfl, _⟩
      · exact I.sc q (List.mem_cons_of_mem _ z)
      · exact hj
    · rcases hx with z | z
      · refine .inl fun q hq => ?_
        rw [e1, if_pos z] at hq
        have : i < q.1 := ai.1 q hq
        show (q.1 : Int) ≠ (i : Int)
        omega
      · refine .inr fun q hq => ?_
        rw [e2, if_pos z] at hq
        have : j < q.1 := aj.1 q hq
        show (q.1 : Int) ≠ (j : Int)
        omega
theorem chk_mgo {row : List Int} : ∀ (n : Nat) (ds cs : List (Nat × Int)) (ps : List Int) (last : Int × Int), ds.length + cs.length ≤ n → MInv row ps last ds cs → Chk row ps last (mgo ds cs)
  | n, [], cs, ps, last, _, I => by unfold mgo; exact True.intro
  | n, _ :: _, [], ps, last, _, I => by unfold mgo; exact True.intro
  | 0, _ :: _, _ :: _, _, _, h, _ => by simp at h
  | n + 1, (i, d) :: ds, (j, c) :: cs, ps, last, h, I => by
    have pd : 0 < d := I.pd _ List.mem_cons_self
    have pc : 0 < c := I.pc _ List.mem_cons_self
    simp only [List.length_cons] at h
    unfold mgo
    split
    · exact chk_step (p := d) (ds' := ds) (cs' := (j, c - d) :: cs) I pd (by omega) (by omega) (by rw [if_pos rfl]) (by rw [if_neg (by omega)]) (.inl rfl) fun J => chk_mgo n _ _ _ _ (by simp only [List.length_cons]; omega) J
    · split
      · exact chk_step (p := c) (ds' := (i, d - c) :: ds) (cs' := cs) I pc (by omega) (by omega) (by rw [if_neg (by omega)]) (by rw [if_pos rfl]) (.inr rfl) fun J => chk_mgo n _ _ _ _ (by simp only [List.length_cons]; omega) J
      · exact chk_step (p := d) (ds' := ds) (cs' := cs) I pd (by omega) (by omega) (by rw [if_pos rfl]) (by rw [if_pos (by omega)]) (.inl rfl) fun J => chk_mgo n _ _ _ _ (by omega) J
def sumP (l : List (Nat × Int)) : Int := (l.map (·.2)).sum
theorem sumP_cons (p : Nat × Int) (l : List (Nat × Int)) : sumP (p :: l) = p.2 + sumP l := by unfold sumP; rw [List.map_cons, List.sum_cons]
theorem sumP_nonneg : ∀ {l : List (Nat × Int)}, (∀ q ∈ l, 0 < q.2) → 0 ≤ sumP l
  | [], _ => by show (0 : Int) ≤ 0; omega
  | p :: l, h => by
    rw [sumP_cons]
    have h1 := h p List.mem_cons_self
    have h2 := sumP_nonneg fun q hq => h q (List.mem_cons_of_mem _ hq)
    omega
theorem sum_mgo : ∀ (n : Nat) (ds cs : List (Nat × Int)), ds.length + cs.length ≤ n → (∀ q ∈ ds, 0 < q.2) → (∀ q ∈ cs, 0 < q.2) → ((mgo ds cs).map fun t => t.2.2).sum = min (sumP ds) (sumP cs)
  | n, [], cs, _, _, h => by
    have := sumP_nonneg h
    unfold mgo
    show (0 : Int) = min 0 (sumP cs)
    omega
  | n, p :: ds, [], _, h, _ => by
    have := sumP_nonneg h
    unfold mgo
    show (0 : Int) = min (sumP (p :: ds)) 0
    omega
  | 0, _ :: _, _ :: _, h, _, _ => by simp at h
  | n + 1, (i, d) :: ds, (j, c) :: cs, h, hd, hc => by
    have pd : 0 < d := hd _ List.mem_cons_self
    have pc : 0 < c := hc _ List.mem_cons_self
    have hd' : ∀ q ∈ ds, 0 < q.2 := fun q hq => hd q (List.mem_cons_of_mem _ hq)
    have hc' : ∀ q ∈ cs, 0 < q.2 := fun q hq => hc q (List.mem_cons_of_mem _ hq)
    simp only [List.length_cons] at h
    rw [sumP_cons, sumP_cons]
    unfold mgo
    split
    · have ih := sum_mgo n ds ((j, c - d) :: cs) (by simp only [List.length_cons]; omega) hd' fun q hq => by
        rcases List.mem_cons.mp hq with rfl | hq
        · show 0 < c - d; omega
        · exact hc' q hq
      rw [sumP_cons] at ih
      rw [List.map_cons, List.sum_cons, ih]
      show d + min (sumP ds) (c - d + sumP cs) = min (d + sumP ds) (c + sumP cs)
      omega
    · split
      · have ih := sum_mgo n ((i, d - c) :: ds) cs (by simp only [List.length_cons]; omega) (fun q hq => by
          rcases List.mem_cons.mp hq with rfl | hq
          · show 0 < d - c; omega
          · exact hd' q hq) hc'
        rw [sumP_cons] at ih
        rw [List.map_cons, List.sum_cons, ih]
        show c + min (d - c + sumP ds) (sumP cs) = min (d + sumP ds) (c + sumP cs)
        omega
      · have ih := sum_mgo n ds cs (by omega) hd' hc'
        rw [List.map_cons, List.sum_cons, ih]
        show d + min (sumP ds) (sumP cs) = min (d + sumP ds) (c + sumP cs)
        omega
theorem sumP_debts : ∀ (row : List Int) (k : Nat), sumP (debtsFrom k row) = (row.filter fun x => decide (0 < x)).sum
  | [], _ => rfl
  | x :: r, k => by
    have ih := sumP_debts r (k + 1)
    unfold debtsFrom
    by_cases h : 0 < x
    · rw [if_pos h, sumP_cons, ih, List.filter_cons_of_pos (by simpa using h), List.sum_cons]
    · rw [if_neg h, ih, List.filter_cons_of_neg (by simpa using h)]
theorem sumP_covers : ∀ (row : List Int) (k : Nat), sumP (coversFrom k row) = ((row.filter fun x => decide (x < 0)).map fun x => -x).sum
  | [], _ => rfl
  | x :: r, k => by
    have ih := sumP_covers r (k + 1)
    unfold coversFrom
    by_cases h : x < 0
    · rw [if_pos h, sumP_cons, ih, List.filter_cons_of_pos (by simpa using h), List.map_cons, List.sum_cons]
    · rw [if_neg h, ih, List.filter_cons_of_neg (by simpa using h)]
theorem chk_match (row : List Int) : Chk row (row.map fun _ => 0) (-1, -1) (matchL row) := by
  refine chk_mgo _ _ _ _ _ (Nat.le_refl _) ⟨List.length_map _, debts_asc _ _, covers_asc _ _, fun q hq => (debts_ge _ _ q hq).2, fun q hq => (covers_ge _ _ q hq).2, fun k hk => ?_, fun k hk => ?_, fun q hq => ?_, fun q hq => ?_, .inl fun q hq => by show (q.1 : Int) ≠ -1; omega⟩
  · have z : (row.map fun _ => (0 : Int)).getD k 0 = 0 := by
      rw [List.getD_eq_getElem?_getD, List.getElem?_map]; cases row[k]? <;> rfl
    have := debts_rem row 0 k
    rw [Nat.zero_add, if_pos hk] at this
    omega
  · have z : (row.map fun _ => (0 : Int)).getD k 0 = 0 := by
      rw [List.getD_eq_getElem?_getD, List.getElem?_map]; cases row[k]? <;> rfl
    have := covers_rem row 0 k
    rw [Nat.zero_add, if_pos hk] at this
    omega
  · rcases Int.lt_or_le 0 (row.getD q.1 0) with z | z
    · exact z
    · exfalso
      have h1 := debts_rem row 0 q.1
      rw [Nat.zero_add, if_neg (by omega)] at h1
      have h2 := (debts_ge _ _ q hq).2
      have h3 : ∀ (l : List (Nat × Int)), Asc l → q ∈ l → remOf l q.1 = q.2 := by
        intro l
        induction l with
        | nil => intro _ h; cases h
        | cons p l ih =>
          intro a h
          obtain ⟨pi, pd⟩ := p
          rw [remOf_cons]
          rcases List.mem_cons.mp h with rfl | h
          · rw [if_pos rfl]
          · have : pi < q.1 := a.1 q h
            rw [if_neg (by omega)]
            exact ih a.2 h
      have h4 := h3 _ (debts_asc _ _) hq
      omega
  · rcases Int.lt_or_le (row.getD q.1 0) 0 with z | z
    · exact z
    · exfalso
      have h1 := covers_rem row 0 q.1
      rw [Nat.zero_add, if_neg (by omega)] at h1
      have h2 := (covers_ge _ _ q hq).2
      have h3 : ∀ (l : List (Nat × Int)), Asc l → q ∈ l → remOf l q.1 = q.2 := by
        intro l
        induction l with
        | nil => intro _ h; cases h
        | cons p l ih =>
          intro a h
          obtain ⟨pi, pd⟩ := p
          rw [remOf_cons]
          rcases List.mem_cons.mp h with rfl | h
          · rw [if_pos rfl]
          · have : pi < q.1 := a.1 q h
            rw [if_neg (by omega)]
            exact ih a.2 h
      have h4 := h3 _ (covers_asc _ _) hq
      omega
theorem sum_match (row : List Int) : ((matchL row).map fun t => t.2.2).sum = min (row.filter fun x => decide (0 < x)).sum ((row.filter fun x => decide (x < 0)).map fun x => -x).sum := by
  unfold matchL
  rw [sum_mgo _ _ _ (Nat.le_refl _) (fun q hq => (debts_ge _ _ q hq).2) (fun q hq => (covers_ge _ _ q hq).2), sumP_debts, sumP_covers]
theorem mgo_length : ∀ (n : Nat) (ds cs : List (Nat × Int)), ds.length + cs.length ≤ n → (mgo ds cs).length ≤ ds.length + cs.length
  | n, [], cs, _ => by unfold mgo; simp
  | n, p :: ds, [], _ => by unfold mgo; simp
  | 0, _ :: _, _ :: _, h => by simp at h
  | n + 1, (i, d) :: ds, (j, c) :: cs, h => by
    simp only [List.length_cons] at h
    unfold mgo
    split
    · have := mgo_length n ds ((j, c - d) :: cs) (by simp only [List.length_cons]; omega)
      simp only [List.length_cons] at this ⊢; omega
    · split
      · have := mgo_length n ((i, d - c) :: ds) cs (by simp only [List.length_cons]; omega)
        simp only [List.length_cons] at this ⊢; omega
      · have := mgo_length n ds cs (by omega)
        simp only [List.length_cons] at this ⊢; omega
theorem debts_len : ∀ (row : List Int) (k : Nat), (debtsFrom k row).length + (coversFrom k row).length ≤ row.length
  | [], _ => Nat.le_refl _
  | x :: r, k => by
    have ih := debts_len r (k + 1)
    unfold debtsFrom coversFrom
    split <;> split <;> simp only [List.length_cons] <;> omega
theorem match_length (row : List Int) : (matchL row).length ≤ row.length := Nat.le_trans (mgo_length _ _ _ (Nat.le_refl _)) (debts_len row 0)
/-! ### covers matched with debts: the law's own helpers -/
def triD (t : Tri) : PyData := .tuple [.int (t.1 : Int), .int (t.2.1 : Int), .int t.2.2]
/-- a triple that stands -/
theorem tri_inv {K : PySem.W.Frag} {H : Hp} {v : V} {t : Tri} (h : Dp K H v (triD t)) : ∃ a, v = .ref a ∧ SqT K H a [.int (t.1 : Int), .int (t.2.1 : Int), .int t.2.2] := by
  obtain ⟨a, xs, rfl, s, r⟩ := dp_tuple h
  cases r with
  | cons p r =>
    cases r with
    | cons p2 r =>
      cases r with
      | cons p3 r =>
        cases r
        rw [dp_int p, dp_int p2, dp_int p3] at s
        exact ⟨a, rfl, s⟩
section
variable {P : Program} {w : World} {K : PySem.W.Frag} {mg : Str → Option Value} {base : Heap}
theorem at_int {ns : List Int} {i : Nat} (h : i < ns.length) : atI (ns.map V.int) (i : Int) = some (.int (ns.getD i 0)) := by
  refine atI_nat ?_
  rw [List.getElem?_map, List.getD_eq_getElem?_getD, List.getElem?_eq_getElem h]
  rfl
abbrev N_ahead_whole : List Str := ["_law_row", "_law_parts", "_law_place", "_law_sign", "_law_k"]
abbrev P_ahead_whole : List Str := ["_law_row", "_law_parts", "_law_place", "_law_sign"]
theorem sc_ahead_whole : FnScope N_ahead_whole P_ahead_whole (defScope s_ahead_whole) := ⟨rfl, rfl, rfl, by decide +kernel, rfl, by decide +kernel, by decide +kernel⟩
def sp_ahead_whole (K : PySem.W.Frag) : Sp := fun vs H Q _ => ∃ (a b : Addr) (row ps : List Int) (n : Nat) (sg : Int), vs = [.ref a, .ref b, .int (n : Int), .int sg] ∧ SqL K H a (row.map V.int) ∧ SqL K H b (ps.map V.int) ∧ (sg = 1 ∨ sg = -1) ∧
  n ≤ row.length ∧ row.length ≤ 100000 ∧ ps.length = row.length ∧ (∀ k, k < n → 0 < row.getD k 0 * sg → ps.getD k 0 = row.getD k 0 * sg) ∧ Q (.bl true) H
theorem c_ahead_whole (T : Blt mg) (D : DefAt K mg "_law_ahead_whole" s_ahead_whole P_ahead_whole) : Cal P w K mg base CX0 1 "_law_ahead_whole" P_ahead_whole (sp_ahead_whole K) := by
  refine cal_of D sc_ahead_whole (fun vs H Q E h => ?_) (fun f cdv A outer s H vs Q E hr h => ?_)
  · obtain ⟨a, b, row, ps, n, sg, rfl, _⟩ := h
    rfl
  · obtain ⟨a, b, row, ps, n, sg, rfl, hS, hP, hs, hn, hz, hl, hc, q⟩ := h
    refine ⟨_, (pss_cons (ps_for PassesOwn.never rfl (pi_range1 (by rfl) T.m_range (pa_cons (pv 2) pa_nil)) (pg_name (i := 4) sc_ahead_whole.nd rfl (Or.inl rfl))
        (pss_one (ps_if (PW.pt (pw_and (pt_cmpR op_gt (pe_op op_mul (pe_ix (kx_list K) (pv 0) (pv 4) (fun _ _ => rfl)) (pv 3)) pe_int (nomark _)) (pw_and1 (pt_cmpR op_ne (pe_ix (kx_list K) (pv 1) (pv 4) (fun _ _ => rfl)) (pe_op op_mul (pe_ix (kx_list K) (pv 0) (pv 4) (fun _ _ => rfl)) (pv 3)) (nomark _)))))
          (pss_one (ps_ret pe_bl))
          pss_nil)))
      (pss_one (ps_ret pe_bl))), ?_⟩
    walk_at "go"
    refine for_range (lo := 0) (n := (n : Int).toNat) (fun i σ H' => H' = H ∧ ∃ v, σ = [some (.ref a), some (.ref b), some (.int (n : Int)), some (.int sg), v]) ⟨rfl, none, rfl⟩ ?_ ?_
    · rintro i σ H' hi ⟨rfl, v, rfl⟩
      have hi' : i < n := by omega
      walk_at "go"
      refine ⟨a, _, _, _, rfl, rfl, hS, (by show atI _ (0 + (i : Int)) = _; rw [Int.zero_add]; exact at_int (by omega)), ?_⟩
      walk_at "go"
      refine ite2 (fun h => ?_) (fun h => ?_)
      · have h := of_decide_eq_true h
        walk_at "go"
        refine ⟨b, _, _, _, rfl, rfl, hP, (by show atI _ (0 + (i : Int)) = _; rw [Int.zero_add]; exact at_int (by omega)), ?_⟩
        walk_at "go"
        refine ⟨a, _, _, _, rfl, rfl, hS, (by show atI _ (0 + (i : Int)) = _; rw [Int.zero_add]; exact at_int (by omega)), ?_⟩
        walk_at "go"
        have e := hc i hi' h
        refine iteNS (congrArg V.int e) ?_
        exact ⟨rfl, _, rfl⟩
      · exact ⟨rfl, _, rfl⟩
    · rintro σ H' ⟨rfl, v, rfl⟩
      exact q
abbrev N_is_triple : List Str := ["_law_row", "_law_one"]
abbrev P_is_triple : List Str := ["_law_row", "_law_one"]
theorem sc_is_triple : FnScope N_is_triple P_is_triple (defScope s_is_triple) := ⟨rfl, rfl, rfl, by decide +kernel, rfl, by decide +kernel, by decide +kernel⟩
def sp_is_triple (K : PySem.W.Frag) : Sp := fun vs H Q _ => ∃ (a : Addr) (v : V) (row : List Int) (t : Tri), vs = [.ref a, v] ∧ SqL K H a (row.map V.int) ∧ Dp K H v (triD t) ∧ t.1 < row.length ∧ t.2.1 < row.length ∧
  0 < row.getD t.1 0 ∧ row.getD t.2.1 0 < 0 ∧ 0 < t.2.2 ∧ Q (.bl true) H
theorem c_is_triple (T : Blt mg) (c_whole : Cal P w K mg base CX0 1 "_law_whole" P_whole sp_whole) (D : DefAt K mg "_law_is_triple" s_is_triple P_is_triple) : Cal P w K mg base CX0 2 "_law_is_triple" P_is_triple (sp_is_triple K) := by
  refine cal_of D sc_is_triple (fun vs H Q E h => ?_) (fun f cdv A outer s H vs Q E hr h => ?_)
  · obtain ⟨a, v, row, t, rfl, _⟩ := h
    rfl
  · obtain ⟨a, v, row, ⟨i, j, c⟩, rfl, hS, hT, h1, h2, h3, h4, h5, q⟩ := h
    have h1 : i < row.length := h1
    have h2 : j < row.length := h2
    have h3 : 0 < row.getD i 0 := h3
    have h4 : row.getD j 0 < 0 := h4
    have h5 : 0 < c := h5
    obtain ⟨b, rfl, hB⟩ := tri_inv hT
    refine ⟨_, (pss_cons (ps_if (PW.pt (pw_or (pt_not (pt_val (pe_callB (kc_isi K) (by rfl) T.m_isinstance (by decide +kernel) (pa_cons (pv 1) (pa_cons (pe_bltn (v := .ty "tuple") (by rfl) T.m_tuple PyProof.Rows.boot_tuple rfl) pa_nil))))) (pw_or1 (pt_cmpR op_ne (pe_callB (kc_len K) (by rfl) T.m_len PySem.boot_len (pa_cons (pv 1) pa_nil)) pe_int (nomark _)))))
        (pss_one (ps_ret pe_bl))
        pss_nil)
      (pss_cons (ps_if (PW.pt (pw_or (pt_not (pt_val (pe_cal c_whole (hr.mono (by decide)) pass0 (pa_cons (pe_ix (kx_tup K) (pv 1) pe_int (fun _ _ => rfl)) pa_nil)))) (pw_or (pt_not (pt_val (pe_cal c_whole (hr.mono (by decide)) pass0 (pa_cons (pe_ix (kx_tup K) (pv 1) pe_int (fun _ _ => rfl)) pa_nil)))) (pw_or1 (pt_not (pt_val (pe_cal c_whole (hr.mono (by decide)) pass0 (pa_cons (pe_ix (kx_tup K) (pv 1) pe_int (fun _ _ => rfl)) pa_nil))))))))
        (pss_one (ps_ret pe_bl))
        pss_nil)
      (pss_cons (ps_if (PW.pt (pw_or (pt_not (pt_chain op_le op_lt pe_int (pe_ix (kx_tup K) (pv 1) pe_int (fun _ _ => rfl)) (pe_callB (kc_len K) (by rfl) T.m_len PySem.boot_len (pa_cons (pv 0) pa_nil)))) (pw_or1 (pt_not (pt_chain op_le op_lt pe_int (pe_ix (kx_tup K) (pv 1) pe_int (fun _ _ => rfl)) (pe_callB (kc_len K) (by rfl) T.m_len PySem.boot_len (pa_cons (pv 0) pa_nil)))))))
        (pss_one (ps_ret pe_bl))
        pss_nil)
      (pss_one (ps_ret (pe_and (pe_cmpR op_gt (pe_ix (kx_list K) (pv 0) (pe_ix (kx_tup K) (pv 1) pe_int (fun _ _ => rfl)) (fun _ _ => rfl)) pe_int (nomark _)) (pe_and (pe_cmpR op_lt (pe_ix (kx_list K) (pv 0) (pe_ix (kx_tup K) (pv 1) pe_int (fun _ _ => rfl)) (fun _ _ => rfl)) pe_int (nomark _)) (pe_one (pe_cmpR op_gt (pe_ix (kx_tup K) (pv 1) pe_int (fun _ _ => rfl)) pe_int (nomark _)))))))))), ?_⟩
    walk_at "go"
    refine ⟨_, _, _, _, _, rfl, .ty _, tyx_t hB, kit_ty (r := true) (by decide +kernel), ?_⟩
    walk_at "go"
    refine ⟨b, _, rfl, .inr hB, ?_⟩
    walk_at "go"
    refine ⟨b, _, _, _, rfl, rfl, hB, atI_nat (j := 0) rfl, ?_⟩
    walk_at "go"
    refine ⟨b, _, _, _, rfl, rfl, hB, atI_nat (j := 1) rfl, ?_⟩
    walk_at "go"
    refine ⟨b, _, _, _, rfl, rfl, hB, atI_nat (j := 2) rfl, ?_⟩
    walk_at "go"
    refine ⟨b, _, _, _, rfl, rfl, hB, atI_nat (j := 0) rfl, ?_⟩
    walk_at "go"
    refine ⟨a, _, rfl, .inl hS, ?_⟩
    walk_at "go"
    rw [List.length_map, decide_eq_true (show (i : Int) < (row.length : Int) by omega)]
    walk_at "go"
    refine ⟨b, _, _, _, rfl, rfl, hB, atI_nat (j := 1) rfl, ?_⟩
    walk_at "go"
    refine ⟨a, _, rfl, .inl hS, ?_⟩
    walk_at "go"
    rw [List.length_map, decide_eq_true (show (j : Int) < (row.length : Int) by omega)]
    walk_at "go"
    refine ⟨b, _, _, _, rfl, rfl, hB, atI_nat (j := 0) rfl, ?_⟩
    walk_at "go"
    refine ⟨a, _, _, _, rfl, rfl, hS, at_int h1, ?_⟩
    walk_at "go"
    rw [decide_eq_true h3]
    walk_at "go"
    refine ⟨b, _, _, _, rfl, rfl, hB, atI_nat (j := 1) rfl, ?_⟩
    walk_at "go"
    refine ⟨a, _, _, _, rfl, rfl, hS, at_int h2, ?_⟩
    walk_at "go"
    rw [decide_eq_true h4]
    walk_at "go"
    refine ⟨b, _, _, _, rfl, rfl, hB, atI_nat (j := 2) rfl, ?_⟩
    walk_at "go"
    show Q (.bl (decide (0 < c))) H
    rw [decide_eq_true h5]
    exact q
theorem neq_of {x y : Int × Int} (h : x ≠ y) : PyData.eqv (.tuple [.int x.1, .int x.2]) (.tuple [.int y.1, .int y.2]) = false := by
  obtain ⟨a, b⟩ := x
  obtain ⟨c, d⟩ := y
  show ((a == c) && ((b == d) && true)) = false
  by_cases e : a = c
  · by_cases e2 : b = d
    · exact absurd (by rw [e, e2]) h
    · have : (b == d) = false := by simpa using e2
      rw [this]; simp
  · have : (a == c) = false := by simpa using e
    rw [this]; rfl
theorem set_ints {ns : List Int} {j : Nat} {v : Int} : (ns.map V.int).set j (.int v) = (ns.set j v).map V.int := by rw [List.map_set]
theorem ix_in {n : Nat} {i : Nat} (h : i < n) : ixN n (i : Int) = some i := by
  unfold ixN
  rw [if_pos (by omega), if_pos (by omega), Int.toNat_natCast]
abbrev N_matched_well : List Str := ["_law_row", "_law_found", "_law_parts", "_law_last", "_law_one", "_law_debts", "_law_covers", "_law_cell", "_law_cents"]
abbrev P_matched_well : List Str := ["_law_row", "_law_found"]
theorem sc_matched_well : FnScope N_matched_well P_matched_well (defScope s_matched_well) := ⟨rfl, rfl, rfl, by decide +kernel, rfl, by decide +kernel, by decide +kernel⟩
def sp_matched_well (K : PySem.W.Frag) : Sp := fun vs H Q _ => ∃ (a : Addr) (v : V) (row : List Int) (ts : List Tri), vs = [.ref a, v] ∧ SqL K H a (row.map V.int) ∧ Dp K H v (.list (ts.map triD)) ∧ row.length ≤ 100000 ∧ ts.length ≤ 100000 ∧
  Chk row (row.map fun _ => 0) (-1, -1) ts ∧ (ts.map fun t => t.2.2).sum = min (row.filter fun x => decide (0 < x)).sum ((row.filter fun x => decide (x < 0)).map fun x => -x).sum ∧ ∀ H', Same H H' → Q (.bl true) H'
theorem c_matched_well (T : Blt mg) (c_is_triple : Cal P w K mg base CX0 2 "_law_is_triple" P_is_triple (sp_is_triple K)) (c_ahead_whole : Cal P w K mg base CX0 1 "_law_ahead_whole" P_ahead_whole (sp_ahead_whole K))
    (D : DefAt K mg "_law_matched_well" s_matched_well P_matched_well) : Cal P w K mg base CX0 3 "_law_matched_well" P_matched_well (sp_matched_well K) := by
  refine cal_of D sc_matched_well (fun vs H Q E h => ?_) (fun f cdv A outer s H vs Q E hr h => ?_)
  · obtain ⟨a, v, row, ts, rfl, _⟩ := h
    rfl
  · obtain ⟨a, v, row, ts, rfl, hS, hT, hz, hzt, hC, hsum, q⟩ := h
    obtain ⟨b, xs, rfl, hB, hX⟩ := dp_list hT
    have hxl : xs.length = ts.length := by rw [hX.length, List.length_map]
    refine ⟨_, (pss_cons (ps_setLc (i := 2) (own := [("_law_cell", 7)]) (g := gName 7) (tt := tYes) rfl sc_matched_well.nd rfl rfl (sw_true rfl rfl rfl (by decide +kernel)) (ki_list K (pv 0)) (blkOk_by (N := N_matched_well) (sc := defScope s_matched_well) (by decide +kernel)) (fun _ _ _ _ _ => pg_name (i := 7) sc_matched_well.nd rfl (Or.inl rfl)) (fun _ _ _ _ _ => pts_nil) (fun _ _ _ _ _ => pe_int))
      (pss_cons (ps_set (i := 3) sc_matched_well.nd rfl (Or.inl rfl) (pe_tup (pa_cons (pe_un un_neg pe_int) (pa_cons (pe_un un_neg pe_int) pa_nil))))
      (pss_cons (ps_for PassesOwn.never rfl (ki_list K (pv 1)) (pg_name (i := 4) sc_matched_well.nd rfl (Or.inl rfl))
        (pss_cons (ps_if (PW.pt (pw_or (pt_not (pt_val (pe_cal c_is_triple (hr.mono (by decide)) pass0 (pa_cons (pv 0) (pa_cons (pv 4) pa_nil))))) (pw_or1 (pt_cmpR (ko_eqD K hr.units) (pe_tup (pa_cons (pe_ix (kx_tup K) (pv 4) pe_int (fun _ _ => rfl)) (pa_cons (pe_ix (kx_tup K) (pv 4) pe_int (fun _ _ => rfl)) pa_nil))) (pv 3) (nomark _)))))
          (pss_one (ps_ret pe_bl))
          pss_nil)
        (pss_cons (ps_if (PW.pt (pw_or (pt_not (pt_val (pe_cal c_ahead_whole (hr.mono (by decide)) pass0 (pa_cons (pv 0) (pa_cons (pv 2) (pa_cons (pe_ix (kx_tup K) (pv 4) pe_int (fun _ _ => rfl)) (pa_cons pe_int pa_nil))))))) (pw_or1 (pt_not (pt_val (pe_cal c_ahead_whole (hr.mono (by decide)) pass0 (pa_cons (pv 0) (pa_cons (pv 2) (pa_cons (pe_ix (kx_tup K) (pv 4) pe_int (fun _ _ => rfl)) (pa_cons (pe_un un_neg pe_int) pa_nil))))))))))
          (pss_one (ps_ret pe_bl))
          pss_nil)
        (pss_cons (ps_asg (pe_op op_add (pe_ix (kx_list K) (pv 2) (pe_ix (kx_tup K) (pv 4) pe_int (fun _ _ => rfl)) (fun _ _ => rfl)) (pe_ix (kx_tup K) (pv 4) pe_int (fun _ _ => rfl))) (pg_sub (pv 2) (pe_ix (kx_tup K) (pv 4) pe_int (fun _ _ => rfl)) set_list))
        (pss_cons (ps_asg (pe_op op_add (pe_ix (kx_list K) (pv 2) (pe_ix (kx_tup K) (pv 4) pe_int (fun _ _ => rfl)) (fun _ _ => rfl)) (pe_ix (kx_tup K) (pv 4) pe_int (fun _ _ => rfl))) (pg_sub (pv 2) (pe_ix (kx_tup K) (pv 4) pe_int (fun _ _ => rfl)) set_list))
        (pss_cons (ps_if (PW.pt (pw_or (pt_cmpR op_gt (pe_ix (kx_list K) (pv 2) (pe_ix (kx_tup K) (pv 4) pe_int (fun _ _ => rfl)) (fun _ _ => rfl)) (pe_ix (kx_list K) (pv 0) (pe_ix (kx_tup K) (pv 4) pe_int (fun _ _ => rfl)) (fun _ _ => rfl)) (nomark _)) (pw_or1 (pt_cmpR op_gt (pe_ix (kx_list K) (pv 2) (pe_ix (kx_tup K) (pv 4) pe_int (fun _ _ => rfl)) (fun _ _ => rfl)) (pe_un un_neg (pe_ix (kx_list K) (pv 0) (pe_ix (kx_tup K) (pv 4) pe_int (fun _ _ => rfl)) (fun _ _ => rfl))) (nomark _)))))
          (pss_one (ps_ret pe_bl))
          pss_nil)
        (pss_one (ps_set (i := 3) sc_matched_well.nd rfl (Or.inl rfl) (pe_tup (pa_cons (pe_ix (kx_tup K) (pv 4) pe_int (fun _ _ => rfl)) (pa_cons (pe_ix (kx_tup K) (pv 4) pe_int (fun _ _ => rfl)) pa_nil)))))))))))
      (pss_cons (ps_set (i := 5) sc_matched_well.nd rfl (Or.inl rfl) (pe_callB (kc_sum K rfl) (by rfl) T.m_sum (by decide +kernel) (pa_cons (pe_lc (own := [("_law_cents", 8)]) (g := gName 8) rfl sc_matched_well.nd (ki_list K (pv 0)) (blkOk_by (N := N_matched_well) (sc := defScope s_matched_well) (by decide +kernel)) (fun _ _ _ _ _ => pg_name (i := 8) sc_matched_well.nd rfl (Or.inl rfl)) (fun _ _ _ _ _ => pts_one (pt_cmpR op_gt (pv 8) pe_int (nomark _))) (fun _ _ _ _ _ => (pv 8))) pa_nil)))
      (pss_cons (ps_set (i := 6) sc_matched_well.nd rfl (Or.inl rfl) (pe_callB (kc_sum K rfl) (by rfl) T.m_sum (by decide +kernel) (pa_cons (pe_lc (own := [("_law_cents", 8)]) (g := gName 8) rfl sc_matched_well.nd (ki_list K (pv 0)) (blkOk_by (N := N_matched_well) (sc := defScope s_matched_well) (by decide +kernel)) (fun _ _ _ _ _ => pg_name (i := 8) sc_matched_well.nd rfl (Or.inl rfl)) (fun _ _ _ _ _ => pts_one (pt_cmpR op_lt (pv 8) pe_int (nomark _))) (fun _ _ _ _ _ => (pe_un un_neg (pv 8)))) pa_nil)))
      (pss_one (ps_ret (pe_cmpR op_eq (pe_callB (kc_sum K rfl) (by rfl) T.m_sum (by decide +kernel) (pa_cons (pe_lc (own := [("_law_one", 4)]) (g := gName 4) (tt := tYes) rfl sc_matched_well.nd (ki_list K (pv 1)) (blkOk_by (N := N_matched_well) (sc := defScope s_matched_well) (by decide +kernel)) (fun _ _ _ _ _ => pg_name (i := 4) sc_matched_well.nd rfl (Or.inl rfl)) (fun _ _ _ _ _ => pts_nil) (fun _ _ _ _ _ => (pe_ix (kx_tup K) (pv 4) pe_int (fun _ _ => rfl)))) pa_nil)) (pe_callB (call_min2 rfl) (by rfl) T.m_min (by decide +kernel) (pa_cons (pv 5) (pa_cons (pv 6) pa_nil))) (nomark _))))))))), ?_⟩
    walk_at "go"
    -- parts
    refine ⟨⟨_, hS⟩, fun D hD => ?_⟩
    refine lcD_list (fp := fun _ => False) ((row.map fun _ => (0 : Int)).map PyData.int) (by simp) (by simpa using hz) hS hD has_none (fun i x d H1 R hx hd _ _ k => ?_) (fun H1 ys s1 hd r _ => ?_)
    · refine k _ _ (Same.refl _) ?_
      have : d = .int 0 := by
        rw [List.getElem?_map, List.getElem?_map] at hd
        cases e : row[i]? with
        | none => rw [e] at hd; cases hd
        | some z => rw [e] at hd; exact (Option.some.inj hd).symm
      rw [this]
      exact .int 0
    have hy := dpAll_ints_inv r
    subst hy
    walk_at "go"
    intro p hp
    -- for one in found
    have sp := s1.trans (same_new (o := .tup [.int (-1), .int (-1)]) hp)
    have npd : D ≠ p := ne_of_none hd hp
    walk_at "go"
    refine ⟨⟨_, same_l sp hB⟩, ?_⟩
    refine for_list (K := K) (a := b) (xs := xs) (fun i σ H2 => ∃ (ps : List Int) (pl : Addr) (l : Int × Int) (v : Option V), σ = [some (.ref a), some (.ref b), some (.ref D), some (.ref pl), v, none, none, none, none] ∧ Same H H2 ∧ H2 D = some (.lst (ps.map V.int)) ∧ H2 pl = some (.tup [.int l.1, .int l.2]) ∧ ps.length = row.length ∧ Chk row ps l (ts.drop i))
      ⟨row.map fun _ => 0, p, (-1, -1), none, rfl, sp, by rw [upd_ne npd]; exact hd, upd_same, by simp, hC⟩ (fun i σ H2 _ ⟨_, _, _, _, _, s2, _⟩ => same_l s2 hB) ?_ ?_
    · rintro i x σ H2 hx ⟨ps, pl, l, v4, rfl, s2, hd2, hpl, hlen, hk⟩
      have hi : i < ts.length := by
        have := (List.getElem?_eq_some_iff.mp hx).1
        omega
      rw [List.drop_eq_getElem_cons hi] at hk
      obtain ⟨d, hdi, hdx⟩ := hX.got hx
      rw [List.getElem?_map, List.getElem?_eq_getElem hi] at hdi
      have hdi := Option.some.inj hdi
      subst hdi
      revert hk hdx
      generalize ts[i] = t
      obtain ⟨ti, tj, c⟩ := t
      rintro ⟨h1, h2, h3, h4, h5, h6, h7, h8, h9, h10, hk⟩ hdx
      obtain ⟨e, rfl, hE⟩ := tri_inv hdx
      have hE2 := same_t s2 hE
      have nij : ti ≠ tj := fun z => by subst z; omega
      -- not is_triple(..) or the pair again
      walk_at "go"
      refine ⟨a, .ref e, row, (ti, tj, c), rfl, same_l s2 hS, hdx.same s2, h1, h2, h3, h4, h5, ?_⟩
      walk_at "go"
      refine ⟨e, _, _, _, rfl, rfl, hE2, atI_nat (j := 0) rfl, ?_⟩
      walk_at "go"
      refine ⟨e, _, _, _, rfl, rfl, hE2, atI_nat (j := 1) rfl, ?_⟩
      walk_at "go"
      intro p2 hp2
      have s3 : Same H2 _ := same_new (o := .tup [.int (ti : Int), .int (tj : Int)]) hp2
      walk_at "go"
      refine ⟨.tuple [.int (ti : Int), .int (tj : Int)], .tuple [.int l.1, .int l.2], .tup (.inl (.inl upd_same)) (.cons (.int _) (.cons (.int _) .nil)), .tup (.inl (.inl (s3 _ _ hpl))) (.cons (.int _) (.cons (.int _) .nil)), shaped_fl (n := 1) rfl, shaped_fl (n := 1) rfl, ?_⟩
      rw [neq_of (x := ((ti : Int), (tj : Int))) h6]
      walk_at "go"
      -- what lies ahead is whole
      have s03 := s2.trans s3
      have hE3 := same_t s03 hE
      have hD3 : (upd H2 p2 (.tup [.int (ti : Int), .int (tj : Int)])) D = some (.lst (ps.map V.int)) := s3 _ _ hd2
      have hS3 := same_l s03 hS
      have hpl3 := s3 _ _ hpl
      revert s03 hE3 hD3 hS3 hpl3
      generalize (upd H2 p2 (.tup [.int (ti : Int), .int (tj : Int)])) = H3
      intro s03 hE3 hD3 hS3 hpl3
      refine ⟨e, _, _, _, rfl, rfl, hE3, atI_nat (j := 0) rfl, ?_⟩
      refine ⟨a, D, row, ps, ti, 1, rfl, hS3, SqL.of hD3, .inl rfl, by omega, hz, hlen, fun k hk hr => ?_, ?_⟩
      · rw [Int.mul_one] at hr ⊢
        exact h7 k hk hr
      walk_at "go"
      refine ⟨e, _, _, _, rfl, rfl, hE3, atI_nat (j := 1) rfl, ?_⟩
      walk_at "go"
      refine ⟨a, D, row, ps, tj, -1, rfl, hS3, SqL.of hD3, .inr rfl, by omega, hz, hlen, fun k hk hr => ?_, ?_⟩
      · have := h8 k hk (by omega)
        omega
      walk_at "go"
      -- parts[one[0]] = parts[one[0]] + one[2]
      refine ⟨e, _, _, _, rfl, rfl, hE3, atI_nat (j := 0) rfl, ?_⟩
      refine ⟨D, _, _, _, rfl, rfl, SqL.of hD3, at_int (by omega), ?_⟩
      walk_at "go"
      refine ⟨e, _, _, _, rfl, rfl, hE3, atI_nat (j := 2) rfl, ?_⟩
      walk_at "go"
      refine ⟨e, _, _, _, rfl, rfl, hE3, atI_nat (j := 0) rfl, ?_⟩
      refine ⟨D, _, _, _, rfl, rfl, hD3, by rw [List.length_map]; exact ix_in (by omega), ?_⟩
      rw [set_ints]
      have ndp : pl ≠ D := fun z => by rw [z, hD3] at hpl3; cases hpl3
      have s04 := same_mut (o := .lst ((ps.set ti (ps.getD ti 0 + c)).map V.int)) s03 hD
      have hpl4 : (upd H3 D (.lst ((ps.set ti (ps.getD ti 0 + c)).map V.int))) pl = some (.tup [.int l.1, .int l.2]) := by rw [upd_ne ndp]; exact hpl3
      have hD4 : (upd H3 D (.lst ((ps.set ti (ps.getD ti 0 + c)).map V.int))) D = _ := upd_same
      revert s04 hpl4 hD4
      generalize (upd H3 D (.lst ((ps.set ti (ps.getD ti 0 + c)).map V.int))) = H4
      intro s04 hpl4 hD4
      have hE4 := same_t s04 hE
      have hS4 := same_l s04 hS
      have gj : (ps.set ti (ps.getD ti 0 + c)).getD tj 0 = ps.getD tj 0 := by rw [getD_set (by omega), if_neg nij]
      walk_at "go"
      refine ⟨e, _, _, _, rfl, rfl, hE4, atI_nat (j := 1) rfl, ?_⟩
      refine ⟨D, _, _, _, rfl, rfl, SqL.of hD4, at_int (i := tj) (by rw [List.length_set]; omega), ?_⟩
      walk_at "go"
      refine ⟨e, _, _, _, rfl, rfl, hE4, atI_nat (j := 2) rfl, ?_⟩
      walk_at "go"
      refine ⟨e, _, _, _, rfl, rfl, hE4, atI_nat (j := 1) rfl, ?_⟩
      refine ⟨D, _, _, _, rfl, rfl, hD4, by rw [List.length_map, List.length_set]; exact ix_in (i := tj) (by omega), ?_⟩
      rw [set_ints, gj]
      have s05 := same_mut (o := .lst (((ps.set ti (ps.getD ti 0 + c)).set tj (ps.getD tj 0 + c)).map V.int)) s04 hD
      have hpl5 : (upd H4 D (.lst (((ps.set ti (ps.getD ti 0 + c)).set tj (ps.getD tj 0 + c)).map V.int))) pl = some (.tup [.int l.1, .int l.2]) := by rw [upd_ne ndp]; exact hpl4
      have hD5 : (upd H4 D (.lst (((ps.set ti (ps.getD ti 0 + c)).set tj (ps.getD tj 0 + c)).map V.int))) D = _ := upd_same
      revert s05 hpl5 hD5 hk
      have g5 : ((ps.set ti (ps.getD ti 0 + c)).set tj (ps.getD tj 0 + c)).getD ti 0 = ps.getD ti 0 + c := by rw [getD_set (by rw [List.length_set]; omega), if_neg (Ne.symm nij), getD_set (by omega), if_pos rfl]
      have g6 : ((ps.set ti (ps.getD ti 0 + c)).set tj (ps.getD tj 0 + c)).getD tj 0 = ps.getD tj 0 + c := by rw [getD_set (by rw [List.length_set]; omega), if_pos rfl]
      have l5 : ((ps.set ti (ps.getD ti 0 + c)).set tj (ps.getD tj 0 + c)).length = row.length := by rw [List.length_set, List.length_set]; exact hlen
      revert g5 g6 l5
      generalize ((ps.set ti (ps.getD ti 0 + c)).set tj (ps.getD tj 0 + c)) = qs
      generalize (upd H4 D (.lst (qs.map V.int))) = H5
      intro g5 g6 l5 hk s05 hpl5 hD5
      have hE5 := same_t s05 hE
      have hS5 := same_l s05 hS
      -- none over
      walk_at "go"
      refine ⟨e, _, _, _, rfl, rfl, hE5, atI_nat (j := 0) rfl, ?_⟩
      refine ⟨D, _, _, _, rfl, rfl, SqL.of hD5, at_int (by omega), ?_⟩
      walk_at "go"
      refine ⟨e, _, _, _, rfl, rfl, hE5, atI_nat (j := 0) rfl, ?_⟩
      refine ⟨a, _, _, _, rfl, rfl, hS5, at_int (by omega), ?_⟩
      walk_at "go"
      rw [decide_eq_false (show ¬ row.getD ti 0 < qs.getD ti 0 by omega)]
      walk_at "go"
      refine ⟨e, _, _, _, rfl, rfl, hE5, atI_nat (j := 1) rfl, ?_⟩
      refine ⟨D, _, _, _, rfl, rfl, SqL.of hD5, at_int (i := tj) (by omega), ?_⟩
      walk_at "go"
      refine ⟨e, _, _, _, rfl, rfl, hE5, atI_nat (j := 1) rfl, ?_⟩
      refine ⟨a, _, _, _, rfl, rfl, hS5, at_int (i := tj) (by omega), ?_⟩
      walk_at "go"
      rw [decide_eq_false (show ¬ -row.getD tj 0 < qs.getD tj 0 by omega)]
      walk_at "go"
      refine ⟨e, _, _, _, rfl, rfl, hE5, atI_nat (j := 0) rfl, ?_⟩
      walk_at "go"
      refine ⟨e, _, _, _, rfl, rfl, hE5, atI_nat (j := 1) rfl, ?_⟩
      walk_at "go"
      intro p6 hp6
      have nd6 : D ≠ p6 := ne_of_none hD5 hp6
      exact ⟨qs, p6, ((ti : Int), (tj : Int)), _, rfl, s05.trans (same_new hp6), by rw [upd_ne nd6]; exact hD5, upd_same, l5, hk⟩
    · rintro σ H2 ⟨ps, pl, l, v4, rfl, s2, _⟩
      have hS2 := same_l s2 hS
      walk_at "go"
      refine ⟨⟨_, hS2⟩, fun D2 hD2 => ?_⟩
      refine lcI_filter (fun x => decide (0 < x)) (fun x => x) hz hS2 hD2 (fun x H3 R s3 k => ?_) (fun x H3 R s3 k => ?_) (fun H3 s3 hd3 => ?_)
      · walk_at "go"
        exact k
      · exact ⟨_, rfl, k⟩
      rw [List.map_id'] at hd3
      walk_at "go"
      refine ⟨D2, _, rfl, SqL.of hd3, ?_⟩
      have hS3 := same_l s3 hS2
      walk_at "go"
      refine ⟨⟨_, hS3⟩, fun D4 hD4 => ?_⟩
      refine lcI_filter (fun x => decide (x < 0)) (fun x => -x) hz hS3 hD4 (fun x H5 R s5 k => ?_) (fun x H5 R s5 k => ?_) (fun H5 s5 hd5 => ?_)
      · walk_at "go"
        exact k
      · walk_at "go"
        exact k
      walk_at "go"
      refine ⟨D4, _, rfl, SqL.of hd5, ?_⟩
      have s6 := (s2.trans s3).trans s5
      have hB6 := same_l s6 hB
      walk_at "go"
      refine ⟨⟨_, hB6⟩, fun D7 hD7 => ?_⟩
      refine lcD_list (fp := fun _ => False) ((ts.map fun t => t.2.2).map PyData.int) (by simpa using hxl) (by simpa using hzt) hB6 hD7 has_none (fun i x d H8 R hx hd s8 _ k => ?_) (fun H8 ys s8 hd8 r8 _ => ?_)
      · obtain ⟨d', hdi, hdx⟩ := hX.got hx
        rw [List.getElem?_map] at hdi
        rw [List.getElem?_map, List.getElem?_map] at hd
        cases e : ts[i]? with
        | none => rw [e] at hd; cases hd
        | some t =>
          rw [e] at hd hdi
          have hdi := Option.some.inj hdi
          have hd := Option.some.inj hd
          subst hdi hd
          obtain ⟨e, rfl, hE⟩ := tri_inv hdx
          walk_at "go"
          refine ⟨e, _, _, _, rfl, rfl, same_t (s6.trans s8) hE, atI_nat (j := 2) rfl, ?_⟩
          exact k _ _ (Same.refl _) (.int _)
      have hy := dpAll_ints_inv r8
      subst hy
      walk_at "go"
      refine ⟨D7, _, rfl, SqL.of hd8, ?_⟩
      walk_at "go"
      rw [hsum]
      have em : ∀ x y : Int, (if y < x then y else x) = min x y := fun x y => by split <;> omega
      have fin := q H8 (s6.trans s8)
      have e2 : decide (V.int (min (row.filter fun x => decide (0 < x)).sum ((row.filter fun x => decide (x < 0)).map fun x => -x).sum) = V.int (if ((row.filter fun x => decide (x < 0)).map fun x => -x).sum < (row.filter fun x => decide (0 < x)).sum then ((row.filter fun x => decide (x < 0)).map fun x => -x).sum else (row.filter fun x => decide (0 < x)).sum)) = true := by
        rw [em]
        exact decide_eq_true rfl
      rw [e2]
      exact fin
end
section
variable {P : Program} {w : World} {K : PySem.W.Frag} {mg : Str → Option Value} {base : Heap}
/-! ### the program's matched -/
theorem none_back' {H H' : Hp} {a : Addr} (e : Same H H') (h : H' a = none) : H a = none := by
  cases x : H a with
  | none => rfl
  | some u => rw [e a u x] at h; cases h
theorem mgo_cons {i j : Nat} {d c : Int} {ds cs : List (Nat × Int)} : mgo ((i, d) :: ds) ((j, c) :: cs) = if d < c then (i, j, d) :: mgo ds ((j, c - d) :: cs) else if c < d then (i, j, c) :: mgo ((i, d - c) :: ds) cs else (i, j, d) :: mgo ds cs := by
  conv => lhs; unfold mgo
theorem debts_places : ∀ (row : List Int) (k : Nat), (debtsFrom k row).map (·.1) = placesOf (fun x => decide (0 < x)) k row
  | [], _ => rfl
  | x :: r, k => by
    have ih := debts_places r (k + 1)
    unfold debtsFrom placesOf
    by_cases h : 0 < x
    · rw [if_pos h, if_pos (decide_eq_true h), List.map_cons, ih]
    · rw [if_neg h, if_neg (by simpa using h), ih]
theorem covers_places : ∀ (row : List Int) (k : Nat), (coversFrom k row).map (·.1) = placesOf (fun x => decide (x < 0)) k row
  | [], _ => rfl
  | x :: r, k => by
    have ih := covers_places r (k + 1)
    unfold coversFrom placesOf
    by_cases h : x < 0
    · rw [if_pos h, if_pos (decide_eq_true h), List.map_cons, ih]
    · rw [if_neg h, if_neg (by simpa using h), ih]
theorem debts_at : ∀ (row : List Int) (k : Nat), ∀ q ∈ debtsFrom k row, q.1 < k + row.length ∧ row.getD (q.1 - k) 0 = q.2
  | [], _, q, h => by cases h
  | x :: r, k, q, h => by
    unfold debtsFrom at h
    have go : q ∈ debtsFrom (k + 1) r → q.1 < k + (x :: r).length ∧ (x :: r).getD (q.1 - k) 0 = q.2 := fun h => by
      obtain ⟨h1, h2⟩ := debts_at r (k + 1) q h
      have h3 := (debts_ge r (k + 1) q h).1
      refine ⟨by simp only [List.length_cons]; omega, ?_⟩
      have e : q.1 - k = (q.1 - (k + 1)) + 1 := by omega
      rw [e, List.getD_cons_succ]
      exact h2
    split at h
    · rcases List.mem_cons.mp h with rfl | h
      · exact ⟨by simp only [List.length_cons]; omega, by simp⟩
      · exact go h
    · exact go h
theorem covers_at : ∀ (row : List Int) (k : Nat), ∀ q ∈ coversFrom k row, q.1 < k + row.length ∧ row.getD (q.1 - k) 0 = -q.2
  | [], _, q, h => by cases h
  | x :: r, k, q, h => by
    unfold coversFrom at h
    have go : q ∈ coversFrom (k + 1) r → q.1 < k + (x :: r).length ∧ (x :: r).getD (q.1 - k) 0 = -q.2 := fun h => by
      obtain ⟨h1, h2⟩ := covers_at r (k + 1) q h
      have h3 := (covers_ge r (k + 1) q h).1
      refine ⟨by simp only [List.length_cons]; omega, ?_⟩
      have e : q.1 - k = (q.1 - (k + 1)) + 1 := by omega
      rw [e, List.getD_cons_succ]
      exact h2
    split at h
    · rcases List.mem_cons.mp h with rfl | h
      · exact ⟨by simp only [List.length_cons]; omega, by simp⟩
      · exact go h
    · exact go h
/-- what is left at the places -/
def placed (lf : List Int) (l : List (Nat × Int)) : List (Nat × Int) := l.map fun q => (q.1, lf.getD q.1 0)
theorem placed_set {lf : List Int} {l : List (Nat × Int)} {i : Nat} {v : Int} (h : ∀ q ∈ l, q.1 ≠ i) : placed (lf.set i v) l = placed lf l := by
  unfold placed
  refine List.map_congr_left fun q hq => ?_
  rw [List.getD_eq_getElem?_getD, List.getElem?_set_ne (Ne.symm (h q hq)), ← List.getD_eq_getElem?_getD]
/-- between two triples of the program's walk -/
structure PInv (row lf : List Int) (nd nc : Nat) (acc : List Tri) : Prop where
  ll : lf.length = row.length
  ld : nd ≤ (debtsFrom 0 row).length
  lc : nc ≤ (coversFrom 0 row).length
  eq : matchL row = acc ++ mgo (placed lf ((debtsFrom 0 row).drop nd)) (placed lf ((coversFrom 0 row).drop nc))
  pd : ∀ q ∈ (debtsFrom 0 row).drop nd, 0 < lf.getD q.1 0
  pc : ∀ q ∈ (coversFrom 0 row).drop nc, 0 < lf.getD q.1 0
  la : acc.length ≤ nd + nc
theorem pinv_0 (row : List Int) : PInv row (row.map fun i => if i < 0 then -i else i) 0 0 [] := by
  have g : ∀ k, k < row.length → (row.map fun i => if i < 0 then -i else i).getD k 0 = if row.getD k 0 < 0 then -row.getD k 0 else row.getD k 0 := fun k hk => by
    rw [List.getD_eq_getElem?_getD, List.getElem?_map, List.getD_eq_getElem?_getD, List.getElem?_eq_getElem hk]; rfl
  have hd : ∀ q ∈ debtsFrom 0 row, (row.map fun i => if i < 0 then -i else i).getD q.1 0 = q.2 := fun q hq => by
    obtain ⟨h1, h2⟩ := debts_at row 0 q hq
    have h3 := (debts_ge row 0 q hq).2
    rw [Nat.sub_zero] at h2
    rw [g _ (by omega), h2, if_neg (by omega)]
  have hc : ∀ q ∈ coversFrom 0 row, (row.map fun i => if i < 0 then -i else i).getD q.1 0 = q.2 := fun q hq => by
    obtain ⟨h1, h2⟩ := covers_at row 0 q hq
    have h3 := (covers_ge row 0 q hq).2
    rw [Nat.sub_zero] at h2
    rw [g _ (by omega), h2, if_pos (by omega)]
    omega
  have e1 : placed (row.map fun i => if i < 0 then -i else i) (debtsFrom 0 row) = debtsFrom 0 row := by
    unfold placed
    rw [List.map_congr_left (g := id) fun q hq => by rw [hd q hq]; rfl, List.map_id]
  have e2 : placed (row.map fun i => if i < 0 then -i else i) (coversFrom 0 row) = coversFrom 0 row := by
    unfold placed
    rw [List.map_congr_left (g := id) fun q hq => by rw [hc q hq]; rfl, List.map_id]
  refine ⟨List.length_map _, Nat.zero_le _, Nat.zero_le _, ?_, fun q hq => ?_, fun q hq => ?_, Nat.le_refl _⟩
  · rw [List.drop_zero, List.drop_zero, e1, e2]; rfl
  · rw [List.drop_zero] at hq
    rw [hd q hq]; exact (debts_ge row 0 q hq).2
  · rw [List.drop_zero] at hq
    rw [hc q hq]; exact (covers_ge row 0 q hq).2
theorem asc_ne : ∀ {l : List (Nat × Int)} {n : Nat} {q : Nat × Int}, Asc l → l[n]? = some q → ∀ r ∈ l.drop (n + 1), r.1 ≠ q.1
  | [], _, _, _, h, _, _ => by simp at h
  | p :: l, 0, q, a, h, r, hr => by
    have h := Option.some.inj h
    subst h
    have := a.1 r hr
    omega
  | p :: l, n + 1, q, a, h, r, hr => asc_ne (l := l) (n := n) a.2 h r hr
theorem drop_at {α : Type} {l : List α} {n : Nat} {x : α} (h : l[n]? = some x) : l.drop n = x :: l.drop (n + 1) := by
  obtain ⟨hn, e⟩ := List.getElem?_eq_some_iff.mp h
  rw [List.drop_eq_getElem_cons hn, e]
theorem getD_set2 {ps : List Int} {i k : Nat} {v : Int} (h : i < ps.length) : (ps.set i v).getD k 0 = if i = k then v else ps.getD k 0 := by
  rw [List.getD_eq_getElem?_getD, List.getD_eq_getElem?_getD]
  by_cases e : i = k
  · subst e; rw [if_pos rfl, List.getElem?_set_self h]; rfl
  · rw [if_neg e, List.getElem?_set_ne e]
/-- one triple -/
theorem pinv_step {row lf : List Int} {nd nc : Nat} {acc : List Tri} {i j : Nat} {d c p : Int} {x y : Int} (I : PInv row lf nd nc acc) (hi : (debtsFrom 0 row)[nd]? = some (i, x)) (hj : (coversFrom 0 row)[nc]? = some (j, y))
    (ed : lf.getD i 0 = d) (ec : lf.getD j 0 = c) (ep : p = if c < d then c else d) :
    i < row.length ∧ j < row.length ∧ i ≠ j ∧ PInv row ((lf.set i (d - p)).set j (c - p)) (if d - p = 0 then nd + 1 else nd) (if c - p = 0 then nc + 1 else nc) (acc ++ [(i, j, p)]) := by
  have mi := List.mem_of_getElem? hi
  have mj := List.mem_of_getElem? hj
  obtain ⟨i1, i2⟩ := debts_at row 0 _ mi
  obtain ⟨j1, j2⟩ := covers_at row 0 _ mj
  have i3 := (debts_ge row 0 _ mi).2
  have j3 := (covers_ge row 0 _ mj).2
  rw [Nat.sub_zero] at i2 j2
  simp only [Nat.zero_add] at i1 j1 i2 j2 i3 j3
  have nij : i ≠ j := fun e => by subst e; omega
  have dd := drop_at hi
  have dc := drop_at hj
  have pd : 0 < d := by
    have := I.pd (i, x) (by rw [dd]; exact List.mem_cons_self)
    rw [← ed]; exact this
  have pc : 0 < c := by
    have := I.pc (j, y) (by rw [dc]; exact List.mem_cons_self)
    rw [← ec]; exact this
  have nd1 : ∀ q ∈ (debtsFrom 0 row).drop (nd + 1), q.1 ≠ i := asc_ne (debts_asc row 0) hi
  have nc1 : ∀ q ∈ (coversFrom 0 row).drop (nc + 1), q.1 ≠ j := asc_ne (covers_asc row 0) hj
  have nd2 : ∀ q ∈ (debtsFrom 0 row).drop (nd + 1), q.1 ≠ j := fun q hq e => by
    have h1 := debts_at row 0 q (List.mem_of_mem_drop hq)
    have h2 := (debts_ge row 0 q (List.mem_of_mem_drop hq)).2
    rw [Nat.sub_zero, e] at h1
    omega
  have nc2 : ∀ q ∈ (coversFrom 0 row).drop (nc + 1), q.1 ≠ i := fun q hq e => by
    have h1 := covers_at row 0 q (List.mem_of_mem_drop hq)
    have h2 := (covers_ge row 0 q (List.mem_of_mem_drop hq)).2
    rw [Nat.sub_zero, e] at h1
    omega
  have ed1 : placed ((lf.set i (d - p)).set j (c - p)) ((debtsFrom 0 row).drop (nd + 1)) = placed lf ((debtsFrom 0 row).drop (nd + 1)) := by rw [placed_set nd2, placed_set nd1]
  have ec1 : placed ((lf.set i (d - p)).set j (c - p)) ((coversFrom 0 row).drop (nc + 1)) = placed lf ((coversFrom 0 row).drop (nc + 1)) := by rw [placed_set nc1, placed_set nc2]
  have li : i < lf.length := by rw [I.ll]; exact i1
  have lj : j < lf.length := by rw [I.ll]; exact j1
  have g : ∀ k, ((lf.set i (d - p)).set j (c - p)).getD k 0 = if j = k then c - p else if i = k then d - p else lf.getD k 0 := fun k => by
    rw [getD_set2 (by rw [List.length_set]; exact lj), getD_set2 li]
  have gi : ((lf.set i (d - p)).set j (c - p)).getD i 0 = d - p := by rw [g, if_neg (Ne.symm nij), if_pos rfl]
  have gj : ((lf.set i (d - p)).set j (c - p)).getD j 0 = c - p := by rw [g, if_pos rfl]
  have pl : ∀ (q : Nat × Int) (l : List (Nat × Int)), placed ((lf.set i (d - p)).set j (c - p)) (q :: l) = (q.1, ((lf.set i (d - p)).set j (c - p)).getD q.1 0) :: placed ((lf.set i (d - p)).set j (c - p)) l := fun _ _ => rfl
  have e0 := I.eq
  rw [dd, dc] at e0
  have e0 : matchL row = acc ++ mgo ((i, lf.getD i 0) :: placed lf ((debtsFrom 0 row).drop (nd + 1))) ((j, lf.getD j 0) :: placed lf ((coversFrom 0 row).drop (nc + 1))) := e0
  rw [ed, ec] at e0
  have sd : ∀ q ∈ (debtsFrom 0 row).drop (nd + 1), 0 < ((lf.set i (d - p)).set j (c - p)).getD q.1 0 := fun q hq => by
    rw [g, if_neg (Ne.symm (nd2 q hq)), if_neg (Ne.symm (nd1 q hq))]
    exact I.pd q (by rw [dd]; exact List.mem_cons_of_mem _ hq)
  have sc : ∀ q ∈ (coversFrom 0 row).drop (nc + 1), 0 < ((lf.set i (d - p)).set j (c - p)).getD q.1 0 := fun q hq => by
    rw [g, if_neg (Ne.symm (nc1 q hq)), if_neg (Ne.symm (nc2 q hq))]
    exact I.pc q (by rw [dc]; exact List.mem_cons_of_mem _ hq)
  have ln := (List.getElem?_eq_some_iff.mp hi).1
  have lm := (List.getElem?_eq_some_iff.mp hj).1
  refine ⟨i1, j1, nij, by rw [List.length_set, List.length_set]; exact I.ll, by split <;> omega, by split <;> omega, ?_, fun q hq => ?_, fun q hq => ?_, ?_⟩
  · rw [e0]
    rw [List.append_assoc]
    congr 1
    rw [mgo_cons]
    by_cases h1 : d < c
    · have p1 : p = d := by rw [ep, if_neg (by omega)]
      rw [if_pos h1, if_pos (show d - p = 0 by omega), if_neg (show ¬ c - p = 0 by omega), dc, pl, ed1, ec1, gj, p1]
      rfl
    · by_cases h2 : c < d
      · have p1 : p = c := by rw [ep, if_pos h2]
        rw [if_neg h1, if_pos h2, if_neg (show ¬ d - p = 0 by omega), if_pos (show c - p = 0 by omega), dd, pl, ed1, ec1, gi, p1]
        rfl
      · have p1 : p = d := by rw [ep, if_neg h2]
        rw [if_neg h1, if_neg h2, if_pos (show d - p = 0 by omega), if_pos (show c - p = 0 by omega), ed1, ec1, p1]
        rfl
  · split at hq
    · exact sd q hq
    · rw [dd] at hq
      rcases List.mem_cons.mp hq with rfl | hq
      · rw [gi]
        have : p ≤ d := by rw [ep]; split <;> omega
        omega
      · exact sd q hq
  · split at hq
    · exact sc q hq
    · rw [dc] at hq
      rcases List.mem_cons.mp hq with rfl | hq
      · rw [gj]
        have : p ≤ c := by rw [ep]; split <;> omega
        omega
      · exact sc q hq
  · have := I.la
    rw [List.length_append]
    have hp : d - p = 0 ∨ c - p = 0 := by
      rw [ep]; split
      · right; omega
      · left; omega
    simp only [List.length_cons, List.length_nil]
    split <;> split <;> omega
theorem pinv_end {row lf : List Int} {nd nc : Nat} {acc : List Tri} (I : PInv row lf nd nc acc) (h : ¬ (nd < (debtsFrom 0 row).length ∧ nc < (coversFrom 0 row).length)) : matchL row = acc := by
  rw [I.eq]
  have e : mgo (placed lf ((debtsFrom 0 row).drop nd)) (placed lf ((coversFrom 0 row).drop nc)) = [] := by
    by_cases h1 : nd < (debtsFrom 0 row).length
    · rw [show (coversFrom 0 row).drop nc = [] from List.drop_eq_nil_of_le (by omega)]
      show mgo _ [] = []
      cases placed lf ((debtsFrom 0 row).drop nd) <;> (unfold mgo; rfl)
    · rw [show (debtsFrom 0 row).drop nd = [] from List.drop_eq_nil_of_le (by omega)]
      show mgo [] _ = []
      unfold mgo; rfl
  rw [e, List.append_nil]
/-- at the turns of the walk -/
def MW (K : PySem.W.Frag) (fp : Addr → Prop) (H : Hp) (a D1 D2 D3 L : Addr) (row : List Int) : Nat → L2.St → Hp → Prop := fun m σ H' =>
  ∃ (nd nc : Nat) (lf : List Int) (acc : List Tri) (ts : List V) (v7 v8 v9 : Option V), σ = [some (.ref a), some (.ref D1), some (.ref D2), some (.ref D3), some (.ref L), some (.int (nd : Nat)), some (.int (nc : Nat)), v7, v8, v9, none, none] ∧
      m = ((debtsFrom 0 row).length - nd) + ((coversFrom 0 row).length - nc) ∧ Same H H' ∧ H' D1 = some (.lst ((placesOf (fun x => decide (0 < x)) 0 row).map fun k : Nat => V.int (k : Nat))) ∧ H' D2 = some (.lst ((placesOf (fun x => decide (x < 0)) 0 row).map fun k : Nat => V.int (k : Nat))) ∧
      H' D3 = some (.lst (lf.map V.int)) ∧ H' L = some (.lst ts) ∧ DpAll K (off (And1 (And1 fp L) D3) H') ts (acc.map triD) ∧ PInv row lf nd nc acc
abbrev N_matched : List Str := ["changes", "debts", "covers", "left", "triples", "next_debt", "next_cover", "debt", "cover", "part", "cents", "place"]
abbrev P_matched : List Str := ["changes"]
theorem sc_matched : FnScope N_matched P_matched (defScope s_matched) := ⟨rfl, rfl, rfl, by decide +kernel, rfl, by decide +kernel, by decide +kernel⟩
/-- matched(changes): the triples of point 11, a new list of new tuples -/
def sp_matched (K : PySem.W.Frag) : Sp := fun vs H Q _ => ∃ (a : Addr) (row : List Int) (fp : Addr → Prop), vs = [.ref a] ∧ SqL K H a (row.map V.int) ∧ row.length ≤ 1000 ∧ Has fp H ∧
  ∀ p H', Same H H' → H p = none → Dp K (off fp H') (.ref p) (.list ((matchL row).map triD)) → Q (.ref p) H'
theorem c_matched (T : Blt mg) (T2 : Bl2 mg) (D : DefAt K mg "matched" s_matched P_matched) : Cal P w K mg base CX0 5 "matched" P_matched (sp_matched K) := by
  refine (cal_of (k := 0) D sc_matched (fun vs H Q E h => ?_) (fun f cdv A outer s H vs Q E hr h => ?_)).mono (by decide)
  · obtain ⟨a, row, fp, rfl, _⟩ := h
    rfl
  · obtain ⟨a, row, fp, rfl, hS, hl, hf, q⟩ := h
    refine ⟨_, (pss_cons (ps_setLc (i := 1) (own := [("place", 11), ("cents", 10)]) (g := gTup K 2 (gCons (gName 11) (gCons (gName 10) gNil))) rfl sc_matched.nd rfl rfl (sw_true rfl rfl rfl (by decide +kernel)) (pi_enum (by rfl) T2.m_enumerate (pa_cons (pv 0) pa_nil)) (blkOk_by (N := N_matched) (sc := defScope s_matched) (by decide +kernel)) (fun _ _ _ _ _ => pg_tup rfl (pgs_cons (pg_name (i := 11) sc_matched.nd rfl (Or.inl rfl)) (pgs_cons (pg_name (i := 10) sc_matched.nd rfl (Or.inl rfl)) pgs_nil))) (fun _ _ _ _ _ => pts_one (pt_cmpR op_gt (pv 10) pe_int (nomark _))) (fun _ _ _ _ _ => (pv 11)))
      (pss_cons (ps_setLc (i := 2) (own := [("place", 11), ("cents", 10)]) (g := gTup K 2 (gCons (gName 11) (gCons (gName 10) gNil))) rfl sc_matched.nd rfl rfl (sw_true rfl rfl rfl (by decide +kernel)) (pi_enum (by rfl) T2.m_enumerate (pa_cons (pv 0) pa_nil)) (blkOk_by (N := N_matched) (sc := defScope s_matched) (by decide +kernel)) (fun _ _ _ _ _ => pg_tup rfl (pgs_cons (pg_name (i := 11) sc_matched.nd rfl (Or.inl rfl)) (pgs_cons (pg_name (i := 10) sc_matched.nd rfl (Or.inl rfl)) pgs_nil))) (fun _ _ _ _ _ => pts_one (pt_cmpR op_lt (pv 10) pe_int (nomark _))) (fun _ _ _ _ _ => (pv 11)))
      (pss_cons (ps_setLc (i := 3) (own := [("cents", 10)]) (g := gName 10) (tt := tYes) rfl sc_matched.nd rfl rfl (sw_true rfl rfl rfl (by decide +kernel)) (ki_list K (pv 0)) (blkOk_by (N := N_matched) (sc := defScope s_matched) (by decide +kernel)) (fun _ _ _ _ _ => pg_name (i := 10) sc_matched.nd rfl (Or.inl rfl)) (fun _ _ _ _ _ => pts_nil) (fun _ _ _ _ _ => (pe_callB call_abs (by rfl) T.m_abs (by decide +kernel) (pa_cons (pv 10) pa_nil))))
      (pss_cons (ps_set (i := 4) sc_matched.nd rfl (Or.inl rfl) (pe_lst pa_nil))
      (pss_cons (ps_set (i := 5) sc_matched.nd rfl (Or.inl rfl) pe_int)
      (pss_cons (ps_set (i := 6) sc_matched.nd rfl (Or.inl rfl) pe_int)
      (pss_cons (ps_while PassesOwn.never (PW.pt (pw_and (pt_cmpR op_lt (pv 5) (pe_callB (kc_len K) (by rfl) T.m_len PySem.boot_len (pa_cons (pv 1) pa_nil)) (nomark _)) (pw_and1 (pt_cmpR op_lt (pv 6) (pe_callB (kc_len K) (by rfl) T.m_len PySem.boot_len (pa_cons (pv 2) pa_nil)) (nomark _)))))
        (pss_cons (ps_set (i := 7) sc_matched.nd rfl (Or.inl rfl) (pe_ix (kx_list K) (pv 1) (pv 5) (fun _ _ => rfl)))
        (pss_cons (ps_set (i := 8) sc_matched.nd rfl (Or.inl rfl) (pe_ix (kx_list K) (pv 2) (pv 6) (fun _ _ => rfl)))
        (pss_cons (ps_set (i := 9) sc_matched.nd rfl (Or.inl rfl) (pe_callB (call_min2 rfl) (by rfl) T.m_min (by decide +kernel) (pa_cons (pe_ix (kx_list K) (pv 3) (pv 7) (fun _ _ => rfl)) (pa_cons (pe_ix (kx_list K) (pv 3) (pv 8) (fun _ _ => rfl)) pa_nil))))
        (pss_cons (ps_expr (pe_bm PySem.F.plainAttrs_list PySem.F.slot_list_append PySem.F.type_list_append mt_append (pv 4) (pa_cons (pe_tup (pa_cons (pv 7) (pa_cons (pv 8) (pa_cons (pv 9) pa_nil)))) pa_nil)))
        (pss_cons (ps_augS (pv 3) (pv 7) (kg_list K) (pv 9) ip_sub set_list)
        (pss_cons (ps_augS (pv 3) (pv 8) (kg_list K) (pv 9) ip_sub set_list)
        (Evl.pss_cut (ps_if (pt_cmpR op_eq (pe_ix (kx_list K) (pv 3) (pv 7) (fun _ _ => rfl)) pe_int (nomark _))
          (pss_one (ps_aug (i := 5) sc_matched.nd rfl (Or.inl rfl) pe_int ip_add))
          pss_nil)
        (pss_one (ps_if (pt_cmpR op_eq (pe_ix (kx_list K) (pv 3) (pv 8) (fun _ _ => rfl)) pe_int (nomark _))
          (pss_one (ps_aug (i := 6) sc_matched.nd rfl (Or.inl rfl) pe_int ip_add))
          pss_nil))))))))))
      (pss_one (ps_ret (pv 4)))))))))), ?_⟩
    walk_at "goz"
    refine ⟨a, _, rfl, hS, fun D1 h1 => ?_⟩
    refine lcE_filter (fun x => decide (0 < x)) (by decide) (by omega) hS h1 (fun k x H R s k2 => ?_) (fun k x H R s k2 => ?_) (fun H1 s1 e1 => ?_)
    · walk_at "goz"
      exact k2
    · walk_at "goz"
      exact k2
    walk_at "goz"
    refine ⟨a, _, rfl, same_l s1 hS, fun D2 h2 => ?_⟩
    refine lcE_filter (fun x => decide (x < 0)) (by decide) (by omega) (same_l s1 hS) h2 (fun k x H R s k2 => ?_) (fun k x H R s k2 => ?_) (fun H2 s2 e2 => ?_)
    · walk_at "goz"
      exact k2
    · walk_at "goz"
      exact k2
    have hS2 := same_l s2 (same_l s1 hS)
    walk_at "goz"
    refine ⟨⟨_, hS2⟩, fun D3 h3 => ?_⟩
    refine lcI_filter (fun _ => true) (fun i => if i < 0 then -i else i) (by omega) hS2 h3 (fun x H R s k => k) (fun x H R s k => ?_) (fun H3 s3 e3 => ?_)
    · walk_at "goz"
      exact k
    rw [List.filter_eq_self.mpr fun _ _ => rfl] at e3
    walk_at "goz"
    intro L h4
    walk_at "goz"
    have s03 : Same H H3 := s1.trans (s2.trans s3)
    have n1 : D1 ≠ L := ne_of_none (s3 _ _ (s2 _ _ e1)) h4
    have n2 : D2 ≠ L := ne_of_none (s3 _ _ e2) h4
    have n3 : D3 ≠ L := ne_of_none e3 h4
    have n13 : D1 ≠ D3 := ne_of_none (s2 _ _ e1) h3
    have n23 : D2 ≠ D3 := ne_of_none e2 h3
    have o3 : H D3 = none := none_back' (s1.trans s2) h3
    have o4 : H L = none := none_back' s03 h4
    refine ⟨MW K fp H a D1 D2 D3 L row,
      ⟨_, 0, 0, _, [], [], none, none, none, rfl, rfl, same_mut s03 o4, by rw [upd_ne n1]; exact s3 _ _ (s2 _ _ e1), by rw [upd_ne n2]; exact s3 _ _ e2, by rw [upd_ne n3]; exact e3, upd_same, .nil, pinv_0 row⟩, ?_⟩
    rintro m σ H' ⟨nd, nc, lf, acc, ts, v7, v8, v9, rfl, rfl, s', b1, b2, b3, b4, dt, I⟩
    have l1 : (debtsFrom 0 row).length = (placesOf (fun x => decide (0 < x)) 0 row).length := by rw [← debts_places, List.length_map]
    have l2 : (coversFrom 0 row).length = (placesOf (fun x => decide (x < 0)) 0 row).length := by rw [← covers_places, List.length_map]
    have fin : ¬ (nd < (debtsFrom 0 row).length ∧ nc < (coversFrom 0 row).length) → Q (.ref L) H' := fun h => by
      have e := pinv_end I h
      refine q L H' s' o4 (.lst (SqL.of (by rw [off_out (hf.new o4)]; exact b4)) ?_)
      rw [e]
      exact dt.same (off_less fun a z => .inl (.inl z))
    have zl : ∀ (c : Int → Bool), (((placesOf c 0 row).map fun k : Nat => V.int (k : Nat)).length : Nat) = (placesOf c 0 row).length := fun c => List.length_map _
    walk_at "goz"
    refine ite2 (fun h => ?_) (fun h => ?_)
    rotate_left
    · walk_at "goz"
      exact fin fun z => h (decide_eq_true (by rw [zl, ← l1]; omega))
    walk_at "goz"
    refine ite2 (fun g => ?_) (fun g => ?_)
    rotate_left
    · walk_at "goz"
      exact fin fun z => g (decide_eq_true (by rw [zl, ← l2]; omega))
    have h := of_decide_eq_true h
    have g := of_decide_eq_true g
    rw [zl, ← l1] at h
    rw [zl, ← l2] at g
    have h : nd < (debtsFrom 0 row).length := by omega
    have g : nc < (coversFrom 0 row).length := by omega
    obtain ⟨⟨i, x⟩, ei⟩ : ∃ q, (debtsFrom 0 row)[nd]? = some q := ⟨_, List.getElem?_eq_getElem h⟩
    obtain ⟨⟨j, y⟩, ej⟩ : ∃ q, (coversFrom 0 row)[nc]? = some q := ⟨_, List.getElem?_eq_getElem g⟩
    have ai : atI ((placesOf (fun x => decide (0 < x)) 0 row).map fun k : Nat => V.int (k : Nat)) (nd : Nat) = some (.int (i : Nat)) := atI_nat (by rw [← debts_places, List.map_map, List.getElem?_map, ei]; rfl)
    have aj : atI ((placesOf (fun x => decide (x < 0)) 0 row).map fun k : Nat => V.int (k : Nat)) (nc : Nat) = some (.int (j : Nat)) := atI_nat (by rw [← covers_places, List.map_map, List.getElem?_map, ej]; rfl)
    obtain ⟨li, lj, nij, I'⟩ := pinv_step I ei ej rfl rfl rfl
    have hi : i < lf.length := by rw [I.ll]; exact li
    have hj : j < lf.length := by rw [I.ll]; exact lj
    have gi : atI (lf.map V.int) (i : Nat) = some (.int (lf.getD i 0)) := at_int hi
    have gj : atI (lf.map V.int) (j : Nat) = some (.int (lf.getD j 0)) := at_int hj
    have nL3 := n3
    refine ⟨fun σ' H2 => ∃ m', m' < ((debtsFrom 0 row).length - nd) + ((coversFrom 0 row).length - nc) ∧ MW K fp H a D1 D2 D3 L row m' σ' H2, fun _ _ z => z, ?_⟩
    walk_at "goz"
    have mp : lf.getD i 0 - (if lf.getD j 0 < lf.getD i 0 then lf.getD j 0 else lf.getD i 0) = 0 ∨ lf.getD j 0 - (if lf.getD j 0 < lf.getD i 0 then lf.getD j 0 else lf.getD i 0) = 0 := by
      split
      · right; omega
      · left; omega
    generalize (if lf.getD j 0 < lf.getD i 0 then lf.getD j 0 else lf.getD i 0) = p at *
    refine ⟨.inl ⟨rfl, _, SqL.of b4⟩, ?_⟩
    walk_at "goz"
    intro t ht
    have st : Same H' (upd H' t (.tup [.int (i : Nat), .int (j : Nat), .int p])) := same_new ht
    have hf' : Has (And1 (And1 fp L) D3) H' := ((hf.same s').and1 (by rw [b4]; exact fun z => nomatch z)).and1 (by rw [b3]; exact fun z => nomatch z)
    have dnew : Dp K (off (And1 (And1 fp L) D3) (upd H' t (.tup [.int (i : Nat), .int (j : Nat), .int p]))) (.ref t) (triD (i, j, p)) := dp_tup_new hf' ht (.cons (.int _) (.cons (.int _) (.cons (.int _) .nil)))
    have dts := (dt.same (off_mono st)).append (.cons dnew .nil)
    have b1t := st _ _ b1
    have b2t := st _ _ b2
    have b3t := st _ _ b3
    have b4t := st _ _ b4
    have st' := s'.trans st
    generalize upd H' t (.tup [.int (i : Nat), .int (j : Nat), .int p]) = Ht at *
    have tl : ts.length = acc.length := by rw [dt.length, List.length_map]
    have la := I.la
    have zd := placesOf_len (fun x => decide (0 < x)) row 0
    have zc := placesOf_len (fun x => decide (x < 0)) row 0
    refine ⟨L, ts, _, rfl, rfl, b4t, Evl.sz_lt (by omega), ?_⟩
    have hAD := off_upd (H := Ht) (fp := And1 (And1 fp L) D3) (p := L) (o := .lst (ts ++ [.ref t])) (.inl (.inr rfl))
    have b5 : ∀ zs, upd (upd Ht L (.lst (ts ++ [.ref t]))) D3 (.lst zs) D3 = some (.lst zs) := fun zs => upd_same
    have b6 : upd Ht L (.lst (ts ++ [.ref t])) D3 = some (.lst (lf.map V.int)) := by rw [upd_ne n3]; exact b3t
    walk_at "goz"
    refine ⟨D3, _, _, _, rfl, rfl, SqL.of b6, by omega, gi, ?_⟩
    walk_at "goz"
    refine ⟨D3, _, _, i, rfl, rfl, b6, Evl.ixN_nat (by rw [List.length_map]; exact hi), ?_⟩
    rw [← List.map_set]
    walk_at "goz"
    have gj1 : atI ((lf.set i (lf.getD i 0 - p)).map V.int) (j : Nat) = some (.int (lf.getD j 0)) := by
      rw [at_int (by rw [List.length_set]; exact hj), getD_set2 hi, if_neg nij]
    refine ⟨D3, _, _, _, rfl, rfl, SqL.of upd_same, by omega, gj1, ?_⟩
    walk_at "goz"
    refine ⟨D3, _, _, j, rfl, rfl, upd_same, Evl.ixN_nat (by rw [List.length_map, List.length_set]; exact hj), ?_⟩
    rw [← List.map_set, upd_upd]
    have c1 : upd (upd Ht L (.lst (ts ++ [.ref t]))) D3 (.lst (((lf.set i (lf.getD i 0 - p)).set j (lf.getD j 0 - p)).map V.int)) D1 = some (.lst ((placesOf (fun x => decide (0 < x)) 0 row).map fun k : Nat => V.int (k : Nat))) := by rw [upd_ne n13, upd_ne n1]; exact b1t
    have c2 : upd (upd Ht L (.lst (ts ++ [.ref t]))) D3 (.lst (((lf.set i (lf.getD i 0 - p)).set j (lf.getD j 0 - p)).map V.int)) D2 = some (.lst ((placesOf (fun x => decide (x < 0)) 0 row).map fun k : Nat => V.int (k : Nat))) := by rw [upd_ne n23, upd_ne n2]; exact b2t
    have c3 : upd (upd Ht L (.lst (ts ++ [.ref t]))) D3 (.lst (((lf.set i (lf.getD i 0 - p)).set j (lf.getD j 0 - p)).map V.int)) D3 = some (.lst (((lf.set i (lf.getD i 0 - p)).set j (lf.getD j 0 - p)).map V.int)) := upd_same
    have c4 : upd (upd Ht L (.lst (ts ++ [.ref t]))) D3 (.lst (((lf.set i (lf.getD i 0 - p)).set j (lf.getD j 0 - p)).map V.int)) L = some (.lst (ts ++ [.ref t])) := by rw [upd_ne n3.symm]; exact upd_same
    have c5 : Same H (upd (upd Ht L (.lst (ts ++ [.ref t]))) D3 (.lst (((lf.set i (lf.getD i 0 - p)).set j (lf.getD j 0 - p)).map V.int))) := same_mut (same_mut st' o4) o3
    have c6 : DpAll K (off (And1 (And1 fp L) D3) (upd (upd Ht L (.lst (ts ++ [.ref t]))) D3 (.lst (((lf.set i (lf.getD i 0 - p)).set j (lf.getD j 0 - p)).map V.int)))) (ts ++ [.ref t]) ((acc ++ [(i, j, p)]).map triD) := by
      rw [off_upd (Or.inr rfl), hAD, List.map_append]
      exact dts
    generalize upd (upd Ht L (.lst (ts ++ [.ref t]))) D3 (.lst (((lf.set i (lf.getD i 0 - p)).set j (lf.getD j 0 - p)).map V.int)) = Hz at *
    have yi : ((lf.set i (lf.getD i 0 - p)).set j (lf.getD j 0 - p)).getD i 0 = lf.getD i 0 - p := by rw [getD_set2 (by rw [List.length_set]; exact hj), if_neg (Ne.symm nij), getD_set2 hi, if_pos rfl]
    have yj : ((lf.set i (lf.getD i 0 - p)).set j (lf.getD j 0 - p)).getD j 0 = lf.getD j 0 - p := by rw [getD_set2 (by rw [List.length_set]; exact hj), if_pos rfl]
    have zi := at_int (ns := (lf.set i (lf.getD i 0 - p)).set j (lf.getD j 0 - p)) (i := i) (by rw [List.length_set, List.length_set]; exact hi)
    have zj := at_int (ns := (lf.set i (lf.getD i 0 - p)).set j (lf.getD j 0 - p)) (i := j) (by rw [List.length_set, List.length_set]; exact hj)
    rw [yi] at zi
    rw [yj] at zj
    refine ⟨fun σ H2 => H2 = Hz ∧ σ = [some (.ref a), some (.ref D1), some (.ref D2), some (.ref D3), some (.ref L), some (.int (((if lf.getD i 0 - p = 0 then nd + 1 else nd) : Nat) : Int)), some (.int (nc : Nat)), some (.int (i : Nat)), some (.int (j : Nat)), some (.int p), none, none], ?_, ?_⟩
    · walk_at "goz"
      refine ite2 (fun h => ?_) (fun h => ?_)
      · have e : lf.getD i 0 - p = 0 := V.int.inj (of_decide_eq_true h)
        rw [if_pos e]
        walk_at "goz"
        first | exact ⟨rfl, rfl⟩ | exact rfl
      · have e : ¬ lf.getD i 0 - p = 0 := fun e => h (decide_eq_true (congrArg V.int e))
        rw [if_neg e]
        first | exact ⟨rfl, rfl⟩ | exact rfl
    rintro σ H2 ⟨rfl, rfl⟩
    walk_at "goz"
    have fin2 : ∀ n : Int, n = ((if lf.getD j 0 - p = 0 then nc + 1 else nc : Nat) : Int) → ∃ m', m' < ((debtsFrom 0 row).length - nd) + ((coversFrom 0 row).length - nc) ∧ MW K fp H a D1 D2 D3 L row m' [some (.ref a), some (.ref D1), some (.ref D2), some (.ref D3), some (.ref L), some (.int (((if lf.getD i 0 - p = 0 then nd + 1 else nd) : Nat) : Int)), some (.int n), some (.int (i : Nat)), some (.int (j : Nat)), some (.int p), none, none] H2 := fun n en => by
      rw [en]
      refine ⟨_, ?_, _, _, _, _, _, _, _, _, rfl, rfl, c5, c1, c2, c3, c4, c6, I'⟩
      rcases mp with e | e
      · rw [if_pos e]; split <;> omega
      · rw [if_pos e]; split <;> omega
    refine ite2 (fun h => ?_) (fun h => ?_)
    · have e : lf.getD j 0 - p = 0 := V.int.inj (of_decide_eq_true h)
      rw [if_pos e] at fin2
      walk_at "goz"
      exact fin2 _ rfl
    · have e : ¬ lf.getD j 0 - p = 0 := fun e => h (decide_eq_true (congrArg V.int e))
      rw [if_neg e] at fin2
      exact fin2 _ rfl
end
section
variable {P : Program} {w : World} {K : PySem.W.Frag} {mg : Str → Option Value} {base : Heap}
abbrev N_row_of : List Str := ["_law_script", "_law_cell", "_law_k"]
abbrev P_row_of : List Str := ["_law_script"]
theorem sc_row_of : FnScope N_row_of P_row_of (defScope s_row_of) := ⟨rfl, rfl, rfl, by decide +kernel, rfl, by decide +kernel, by decide +kernel⟩
def sp_row_of (K : PySem.W.Frag) : Sp := fun vs H Q _ => ∃ (a : Addr) (ns : List Int), vs = [.ref a] ∧ SqL K H a (ns.map V.int) ∧ ns.length ≤ 63 ∧
  ∀ p H' (row : List Int), Same H H' → row.length ≤ 100 → H' p = some (.lst (row.map V.int)) → Q (.ref p) H'
theorem c_row_of (T : Blt mg) (c_cell_at : Cal P w K mg base CX0 1 "_law_cell_at" P_cell_at (sp_cell_at K)) (D : DefAt K mg "_law_row_of" s_row_of P_row_of) : Cal P w K mg base CX0 2 "_law_row_of" P_row_of (sp_row_of K) := by
  refine cal_of D sc_row_of (fun vs H Q E h => ?_) (fun f cdv A outer s H vs Q E hr h => ?_)
  · obtain ⟨a, ns, rfl, _⟩ := h
    rfl
  · obtain ⟨a, ns, rfl, hS, hl, q⟩ := h
    refine ⟨_, (pss_cons (ps_if (pt_cmpR op_eq (pe_op op_mod (pe_cal c_cell_at (hr.mono (by decide)) pass0 (pa_cons (pv 0) (pa_cons pe_int pa_nil))) pe_int) pe_int (nomark _))
        (pss_cons (ps_set (i := 1) sc_row_of.nd rfl (Or.inr rfl) (pe_cal c_cell_at (hr.mono (by decide)) pass0 (pa_cons (pv 0) (pa_cons pe_int pa_nil))))
        (pss_one (ps_ret (pe_lc (own := [("_law_k", 2)]) (g := gName 2) (tt := tYes) rfl sc_row_of.nd (pi_range1 (by rfl) T.m_range (pa_cons (pe_op op_mod (pe_op op_fdiv (pe_cal c_cell_at (hr.mono (by decide)) pass0 (pa_cons (pv 0) (pa_cons pe_int pa_nil))) pe_int) pe_int) pa_nil)) (blkOk_by (N := N_row_of) (sc := defScope s_row_of) (by decide +kernel)) (fun _ _ _ _ _ => pg_name (i := 2) sc_row_of.nd rfl (Or.inl rfl)) (fun _ _ _ _ _ => pts_nil) (fun _ _ _ _ _ => (pe_op op_sub (pe_op op_mod (pe_op op_mod (pe_op op_mul (pe_op op_mul (pv 1) pe_int) (pe_op op_add (pv 2) pe_int)) pe_int) pe_int) pe_int))))))
        pss_nil)
      (pss_cons (ps_if (pt_cmpR op_eq (pe_op op_mod (pe_cal c_cell_at (hr.mono (by decide)) pass0 (pa_cons (pv 0) (pa_cons pe_int pa_nil))) pe_int) pe_int (nomark _))
        (pss_one (ps_ret (pe_lc (own := [("_law_cell", 1)]) (g := gName 1) (tt := tYes) rfl sc_row_of.nd (ki_list K (pe_slice (ks_list K) (pv 0) (po_some pe_int) po_none)) (blkOk_by (N := N_row_of) (sc := defScope s_row_of) (by decide +kernel)) (fun _ _ _ _ _ => pg_name (i := 1) sc_row_of.nd rfl (Or.inl rfl)) (fun _ _ _ _ _ => pts_nil) (fun _ _ _ _ _ => (pe_op op_sub (pe_op op_mod (pv 1) (pe_op op_add (pe_op op_mul pe_int (pe_op op_pow pe_int pe_int)) pe_int)) (pe_op op_pow pe_int pe_int))))))
        pss_nil)
      (pss_one (ps_ret (pe_lc (own := [("_law_cell", 1)]) (g := gName 1) (tt := tYes) rfl sc_row_of.nd (ki_list K (pe_slice (ks_list K) (pv 0) (po_some pe_int) po_none)) (blkOk_by (N := N_row_of) (sc := defScope s_row_of) (by decide +kernel)) (fun _ _ _ _ _ => pg_name (i := 1) sc_row_of.nd rfl (Or.inl rfl)) (fun _ _ _ _ _ => pts_nil) (fun _ _ _ _ _ => (pe_op op_sub (pe_op op_mod (pv 1) pe_int) pe_int))))))), ?_⟩
    have slice : ∀ (g : Int → Int) (te : TE) (σ : L2.St) (p D : Addr) (H1 : Hp) (Qd : Hp → Prop), Same H H1 → H1 D = none → H1 p = some (.lst ((ns.drop 2).map V.int)) → (∀ (i : Int) (H2 : Hp) (R : VK), R (.int (g i)) H2 → te ((wipe σ [1]).set 1 (some (.int i))) H2 R) →
        (∀ H', Same H H' → ∀ row : List Int, row.length ≤ 100 → H' D = some (.lst (row.map V.int)) → Qd H') → _ := fun g te σ p D H1 Qd s1 hD hp turn fin =>
      lcD_list (K := K) (a := p) (fp := fun _ => False) (te := te) (σ := σ) (j := 1) (Qd := Qd) (((ns.drop 2).map g).map PyData.int) (by simp) (by simp; omega) (SqL.of hp) hD has_none (fun i x d H8 R hx hd s8 _ k => by
        rw [List.getElem?_map] at hx
        rw [List.getElem?_map, List.getElem?_map] at hd
        cases e : (ns.drop 2)[i]? with
        | none => rw [e] at hd; cases hd
        | some t =>
          rw [e] at hd hx
          have hx := Option.some.inj hx
          have hd := Option.some.inj hd
          subst hd hx
          exact turn _ _ _ (k _ _ (Same.refl _) (.int _))) (fun H8 ys s8 hd8 r8 _ => by
        have hy := dpAll_ints_inv r8
        subst hy
        exact fin H8 (s1.trans s8) _ (by simp; omega) hd8)
    walk_at "go"
    refine ⟨a, ns, 0, rfl, hS, ?_⟩
    walk_at "go"
    have m90 : 0 ≤ cellAt ns 0 / 4 % 90 ∧ cellAt ns 0 / 4 % 90 < 90 := ⟨Int.emod_nonneg _ (by decide), Int.emod_lt_of_pos _ (by decide)⟩
    refine ite2 (fun h => ?_) (fun h => ?_)
    · walk_at "go"
      refine ⟨a, ns, 1, rfl, hS, ?_⟩
      walk_at "go"
      refine ⟨a, ns, 0, rfl, hS, ?_⟩
      walk_at "go"
      intro D hD
      refine lcD_range (K := K) (fp := fun _ => False) (((List.range (cellAt ns 0 / 4 % 90).toNat).map fun k : Nat => cellAt ns 1 * 48271 * (0 + (k : Int) + 3) % 10007 % 41 - 20).map PyData.int) (by simp) (by simp; omega) hD has_none (fun i d H8 R hi hd s8 _ k => ?_) (fun H8 ys s8 hd8 r8 _ => ?_)
      · rw [List.getElem?_map, List.getElem?_map, List.getElem?_range hi] at hd
        have hd := Option.some.inj hd
        subst hd
        walk_at "go"
        exact k _ _ (Same.refl _) (.int _)
      · have hy := dpAll_ints_inv r8
        subst hy
        exact q D H8 _ s8 (by simp; omega) hd8
    · walk_at "go"
      refine ⟨a, ns, 0, rfl, hS, ?_⟩
      walk_at "go"
      have cut : cutV (ns.map V.int) (some 2) none = (ns.drop 2).map V.int := by
        unfold cutV
        rw [List.length_map, HT.sIx_none, show (2 : Int) = ((2 : Nat) : Int) from rfl, HT.sIx_nat, List.map_drop]
        rcases Nat.lt_or_ge ns.length 2 with z | z
        · rw [Nat.min_eq_right (by omega), List.drop_eq_nil_of_le (by simp), List.drop_eq_nil_of_le (by simp; omega)]; simp
        · rw [Nat.min_eq_left z, List.take_of_length_le (by simp)]
      refine ite2 (fun h => ?_) (fun h => ?_)
      · walk_at "go"
        refine ⟨a, _, rfl, hS, fun p hp => ?_⟩
        rw [cut]
        walk_at "go"
        refine ⟨⟨_, SqL.of upd_same⟩, fun D hD => ?_⟩
        refine slice (fun i => i % (2 * 10 ^ (15 : Int).toNat + 1) - 10 ^ (15 : Int).toNat) _ _ p D _ _ (same_new hp) hD upd_same (fun i H2 R k => ?_) fun H' s' row hr hd => q D H' row s' hr hd
        walk_at "go"
        refine And.intro (show (0 : Int) < 2 * 10 ^ (15 : Int).toNat + 1 by decide) ?_
        walk_at "go"
        exact k
      · walk_at "go"
        refine ⟨a, _, rfl, hS, fun p hp => ?_⟩
        rw [cut]
        walk_at "go"
        refine ⟨⟨_, SqL.of upd_same⟩, fun D hD => ?_⟩
        refine slice (fun i => i % 21 - 10) _ _ p D _ _ (same_new hp) hD upd_same (fun i H2 R k => ?_) fun H' s' row hr hd => q D H' row s' hr hd
        walk_at "go"
        exact k
theorem dp_ints {H : Hp} {a : Addr} {ns : List Int} (h : SqL K H a (ns.map V.int)) : Dp K H (.ref a) (.list (ns.map PyData.int)) := .lst h (dpAll_ints ns)
theorem shaped_ints (ns : List Int) : SeqAt.shaped (.list (ns.map PyData.int)) = true := shaped_fl (n := 1) (fl_ints 0 ns)
abbrev N_law : List Str := ["_law_script", "_law_row", "_law_handed", "_law_found"]
abbrev P_law : List Str := ["_law_script"]
theorem sc_law : FnScope N_law P_law (defScope s_law) := ⟨rfl, rfl, rfl, by decide +kernel, rfl, by decide +kernel, by decide +kernel⟩
def sp_law (K : PySem.W.Frag) : Sp := fun vs H Q _ => ∃ (a : Addr) (ns : List Int), vs = [.ref a] ∧ SqL K H a (ns.map V.int) ∧ ns.length ≤ 63 ∧ ∀ H', Q (.bl true) H'
theorem ok_law (T : Blt mg) (c_row_of : Cal P w K mg base CX0 2 "_law_row_of" P_row_of (sp_row_of K)) (c_matched : Cal P w K mg base CX0 5 "matched" P_matched (sp_matched K)) (c_matched_well : Cal P w K mg base CX0 3 "_law_matched_well" P_matched_well (sp_matched_well K))
    {f : Addr} {fd : FuncData} (F : Fun K "law" "law" s_law f fd) : FnOk P w K mg base CX0 6 f fd ["_law_script"] (sp_law K) := by
  refine F.ok sc_law (fun vs H Q E h => ?_) (fun cdv A outer s H vs Q E hr h => ?_)
  · obtain ⟨a, ns, rfl, _⟩ := h
    rfl
  · obtain ⟨a, ns, rfl, hS, hl, q⟩ := h
    refine ⟨_, (pss_cons (ps_set (i := 1) sc_law.nd rfl (Or.inl rfl) (pe_cal c_row_of (hr.mono (by decide)) pass0 (pa_cons (pv 0) pa_nil)))
      (pss_cons (ps_set (i := 2) sc_law.nd rfl (Or.inl rfl) (pe_callTy (kc_list K) (by rfl) T.m_list PyProof.Rows.boot_list (pa_cons (pv 1) pa_nil)))
      (pss_cons (ps_set (i := 3) sc_law.nd rfl (Or.inl rfl) (pe_cal c_matched (hr.mono (by decide)) pass0 (pa_cons (pv 2) pa_nil)))
      (pss_cons (ps_if (PW.pt (pw_or (pt_not (pt_val (pe_callB (kc_isi K) (by rfl) T.m_isinstance (by decide +kernel) (pa_cons (pv 3) (pa_cons (pe_bltn (v := .ty "list") (by rfl) T.m_list PyProof.Rows.boot_list rfl) pa_nil))))) (pw_or (pt_not (pt_val (pe_callB (kc_isi K) (by rfl) T.m_isinstance (by decide +kernel) (pa_cons (pv 2) (pa_cons (pe_bltn (v := .ty "list") (by rfl) T.m_list PyProof.Rows.boot_list rfl) pa_nil))))) (pw_or1 (pt_cmpR (ko_neD K hr.units) (pv 2) (pv 1) (nomark _))))))
        (pss_one (ps_ret pe_bl))
        pss_nil)
      (pss_one (ps_ret (pe_cal c_matched_well (hr.mono (by decide)) pass0 (pa_cons (pv 1) (pa_cons (pv 3) pa_nil))))))))), ?_⟩
    walk_at "go"
    refine ⟨a, ns, rfl, hS, hl, fun p H1 row s1 hz h1 => ?_⟩
    walk_at "go"
    refine ⟨p, _, rfl, .inl (SqL.of h1), fun l hl1 => ?_⟩
    have s2 : Same H1 _ := same_new (o := .lst (row.map V.int)) hl1
    walk_at "go"
    refine ⟨l, row, fun _ => False, rfl, SqL.of upd_same, by omega, has_none, fun r H3 s3 hr3 dr => ?_⟩
    rw [off_none] at dr
    have hl3 := s3 _ _ (upd_same (H := H1) (a := l) (o := .lst (row.map V.int)))
    have hp3 := s3 _ _ (s2 _ _ h1)
    obtain ⟨r', xs, e, hR, _⟩ := dp_list dr
    cases e
    walk_at "go"
    refine ⟨_, _, _, _, _, rfl, .ty _, tyx_l hR, kit_ty (r := true) (by decide +kernel), ?_⟩
    walk_at "go"
    refine ⟨_, _, _, _, _, rfl, .ty _, tyx_l (SqL.of hl3), kit_ty (r := true) (by decide +kernel), ?_⟩
    walk_at "go"
    refine ⟨_, _, dp_ints (SqL.of hl3), dp_ints (SqL.of hp3), shaped_ints row, shaped_ints row, ?_⟩
    rw [eqv_self (shaped_ints row)]
    walk_at "go"
    refine ⟨p, .ref r, row, matchL row, rfl, SqL.of hp3, dr, by omega, Nat.le_trans (match_length row) (by omega), chk_match row, sum_match row, fun H4 _ => ?_⟩
    exact q H4
end
theorem all_mk {l : PySem.W.OpenLaw} {w : World} {K : PySem.W.Frag} {h : Heap} {mg : Str → Option Value} {fa : Addr} (X : K.In h) (G : h.Ns mainGlobals mg) (hfa : mg "law" = some (.ref fa)) {f1 : Addr} {oc1 kV1 dc1 pm1 cd1 ct1 : Value} {od1 an1 : Option Addr} {sl1 : Array (Option Value)} {f2 : Addr} {oc2 kV2 dc2 pm2 cd2 ct2 : Value} {od2 an2 : Option Addr} {sl2 : Array (Option Value)} {f3 : Addr} {oc3 kV3 dc3 pm3 cd3 ct3 : Value} {od3 an3 : Option Addr} {sl3 : Array (Option Value)} {f4 : Addr} {oc4 kV4 dc4 pm4 cd4 ct4 : Value} {od4 an4 : Option Addr} {sl4 : Array (Option Value)} {f5 : Addr} {oc5 kV5 dc5 pm5 cd5 ct5 : Value} {od5 an5 : Option Addr} {sl5 : Array (Option Value)} {f6 : Addr} {oc6 kV6 dc6 pm6 cd6 ct6 : Value} {od6 an6 : Option Addr} {sl6 : Array (Option Value)} {f7 : Addr} {oc7 kV7 dc7 pm7 cd7 ct7 : Value} {od7 an7 : Option Addr} {sl7 : Array (Option Value)} {f8 : Addr} {oc8 kV8 dc8 pm8 cd8 ct8 : Value} {od8 an8 : Option Addr} {sl8 : Array (Option Value)} 
    (a1 : PySem.W.nsIn K mainGlobals "matched" = some (some (.ref f1))) (l1 : K.lookup f1 = some ⟨oc1, od1, .func (PySem.W.fnOf "matched" "matched" (defArgs s_matched) (defBody s_matched) (defScope s_matched) .none kV1 dc1 pm1 an1 cd1 ct1), sl1⟩) (c1 : PySem.W.codeIn K cd1 "matched" = true) (k1 : PySem.W.keepIn K (.ref f1) = true)
    (a2 : PySem.W.nsIn K mainGlobals "_law_cell_at" = some (some (.ref f2))) (l2 : K.lookup f2 = some ⟨oc2, od2, .func (PySem.W.fnOf "_law_cell_at" "_law_cell_at" (defArgs s_cell_at) (defBody s_cell_at) (defScope s_cell_at) .none kV2 dc2 pm2 an2 cd2 ct2), sl2⟩) (c2 : PySem.W.codeIn K cd2 "_law_cell_at" = true) (k2 : PySem.W.keepIn K (.ref f2) = true)
    (a3 : PySem.W.nsIn K mainGlobals "_law_whole" = some (some (.ref f3))) (l3 : K.lookup f3 = some ⟨oc3, od3, .func (PySem.W.fnOf "_law_whole" "_law_whole" (defArgs s_whole) (defBody s_whole) (defScope s_whole) .none kV3 dc3 pm3 an3 cd3 ct3), sl3⟩) (c3 : PySem.W.codeIn K cd3 "_law_whole" = true) (k3 : PySem.W.keepIn K (.ref f3) = true)
    (a4 : PySem.W.nsIn K mainGlobals "_law_row_of" = some (some (.ref f4))) (l4 : K.lookup f4 = some ⟨oc4, od4, .func (PySem.W.fnOf "_law_row_of" "_law_row_of" (defArgs s_row_of) (defBody s_row_of) (defScope s_row_of) .none kV4 dc4 pm4 an4 cd4 ct4), sl4⟩) (c4 : PySem.W.codeIn K cd4 "_law_row_of" = true) (k4 : PySem.W.keepIn K (.ref f4) = true)
    (a5 : PySem.W.nsIn K mainGlobals "_law_ahead_whole" = some (some (.ref f5))) (l5 : K.lookup f5 = some ⟨oc5, od5, .func (PySem.W.fnOf "_law_ahead_whole" "_law_ahead_whole" (defArgs s_ahead_whole) (defBody s_ahead_whole) (defScope s_ahead_whole) .none kV5 dc5 pm5 an5 cd5 ct5), sl5⟩) (c5 : PySem.W.codeIn K cd5 "_law_ahead_whole" = true) (k5 : PySem.W.keepIn K (.ref f5) = true)
    (a6 : PySem.W.nsIn K mainGlobals "_law_is_triple" = some (some (.ref f6))) (l6 : K.lookup f6 = some ⟨oc6, od6, .func (PySem.W.fnOf "_law_is_triple" "_law_is_triple" (defArgs s_is_triple) (defBody s_is_triple) (defScope s_is_triple) .none kV6 dc6 pm6 an6 cd6 ct6), sl6⟩) (c6 : PySem.W.codeIn K cd6 "_law_is_triple" = true) (k6 : PySem.W.keepIn K (.ref f6) = true)
    (a7 : PySem.W.nsIn K mainGlobals "_law_matched_well" = some (some (.ref f7))) (l7 : K.lookup f7 = some ⟨oc7, od7, .func (PySem.W.fnOf "_law_matched_well" "_law_matched_well" (defArgs s_matched_well) (defBody s_matched_well) (defScope s_matched_well) .none kV7 dc7 pm7 an7 cd7 ct7), sl7⟩) (c7 : PySem.W.codeIn K cd7 "_law_matched_well" = true) (k7 : PySem.W.keepIn K (.ref f7) = true)
    (a8 : PySem.W.nsIn K mainGlobals "law" = some (some (.ref f8))) (l8 : K.lookup f8 = some ⟨oc8, od8, .func (PySem.W.fnOf "law" "law" (defArgs s_law) (defBody s_law) (defScope s_law) .none kV8 dc8 pm8 an8 cd8 ct8), sl8⟩) (c8 : PySem.W.codeIn K cd8 "law" = true) (k8 : PySem.W.keepIn K (.ref f8) = true)
    (z1 : PySem.W.nsIn K mainGlobals "len" = some none)
    (z2 : PySem.W.nsIn K mainGlobals "isinstance" = some none)
    (z3 : PySem.W.nsIn K mainGlobals "int" = some none)
    (z4 : PySem.W.nsIn K mainGlobals "bool" = some none)
    (z5 : PySem.W.nsIn K mainGlobals "str" = some none)
    (z6 : PySem.W.nsIn K mainGlobals "list" = some none)
    (z7 : PySem.W.nsIn K mainGlobals "tuple" = some none)
    (z8 : PySem.W.nsIn K mainGlobals "range" = some none)
    (z9 : PySem.W.nsIn K mainGlobals "sum" = some none)
    (z10 : PySem.W.nsIn K mainGlobals "min" = some none)
    (z11 : PySem.W.nsIn K mainGlobals "max" = some none)
    (z12 : PySem.W.nsIn K mainGlobals "abs" = some none)
    (z13 : PySem.W.nsIn K mainGlobals "ValueError" = some none)
    (z14 : PySem.W.nsIn K mainGlobals "enumerate" = some none)
    (z15 : PySem.W.nsIn K mainGlobals "all" = some none) :
    ∃ fd : FuncData, (∀ (s : Shared) (v : Value), BindsTo s fd ⟨[v], []⟩ [("_law_script", v)]) ∧ ∀ base : Heap, K.In base → base.Ns mainGlobals mg → FnOk l.prog w K mg base CX0 6 fa fd ["_law_script"] (sp_law K) := by
  have e := hfa.symm.trans (PySem.W.mg_of X G a8)
  cases e
  have z1 := PySem.W.mg_none_of X G z1
  have z2 := PySem.W.mg_none_of X G z2
  have z3 := PySem.W.mg_none_of X G z3
  have z4 := PySem.W.mg_none_of X G z4
  have z5 := PySem.W.mg_none_of X G z5
  have z6 := PySem.W.mg_none_of X G z6
  have z7 := PySem.W.mg_none_of X G z7
  have z8 := PySem.W.mg_none_of X G z8
  have z9 := PySem.W.mg_none_of X G z9
  have z10 := PySem.W.mg_none_of X G z10
  have z11 := PySem.W.mg_none_of X G z11
  have z12 := PySem.W.mg_none_of X G z12
  have z13 := PySem.W.mg_none_of X G z13
  have z14 := PySem.W.mg_none_of X G z14
  have z15 := PySem.W.mg_none_of X G z15
  have D_matched : DefAt K mg "matched" s_matched P_matched := defAt_mk X G a1 l1 c1 k1 fun _ _ _ _ _ _ us hl => match us, hl with | [_], _ => rfl
  have D_cell_at : DefAt K mg "_law_cell_at" s_cell_at P_cell_at := defAt_mk X G a2 l2 c2 k2 fun _ _ _ _ _ _ us hl => match us, hl with | [_, _], _ => rfl
  have D_whole : DefAt K mg "_law_whole" s_whole P_whole := defAt_mk X G a3 l3 c3 k3 fun _ _ _ _ _ _ us hl => match us, hl with | [_], _ => rfl
  have D_row_of : DefAt K mg "_law_row_of" s_row_of P_row_of := defAt_mk X G a4 l4 c4 k4 fun _ _ _ _ _ _ us hl => match us, hl with | [_], _ => rfl
  have D_ahead_whole : DefAt K mg "_law_ahead_whole" s_ahead_whole P_ahead_whole := defAt_mk X G a5 l5 c5 k5 fun _ _ _ _ _ _ us hl => match us, hl with | [_, _, _, _], _ => rfl
  have D_is_triple : DefAt K mg "_law_is_triple" s_is_triple P_is_triple := defAt_mk X G a6 l6 c6 k6 fun _ _ _ _ _ _ us hl => match us, hl with | [_, _], _ => rfl
  have D_matched_well : DefAt K mg "_law_matched_well" s_matched_well P_matched_well := defAt_mk X G a7 l7 c7 k7 fun _ _ _ _ _ _ us hl => match us, hl with | [_, _], _ => rfl
  have F_law := fun_mk (st := s_law) l8 c8 k8
  refine ⟨PySem.W.fnOf "law" "law" (defArgs s_law) (defBody s_law) (defScope s_law) .none kV8 dc8 pm8 an8 cd8 ct8, fun s v => .of_eq rfl, fun base Xb Gb => ?_⟩
  have T : Blt mg := ⟨z1, z2, z3, z4, z5, z6, z7, z8, z9, z10, z11, z12, z13⟩
  have T2 : Bl2 mg := ⟨z14, z15⟩
  have c_cell_at := c_cell_at (P := l.prog) (w := w) (base := base) T D_cell_at
  have c_whole := c_whole (P := l.prog) (w := w) (base := base) T D_whole
  have c_is_triple := c_is_triple T c_whole D_is_triple
  have c_ahead_whole := c_ahead_whole (P := l.prog) (w := w) (base := base) T D_ahead_whole
  exact ok_law T (c_row_of T c_cell_at D_row_of) (c_matched T T2 D_matched) (c_matched_well T c_is_triple c_ahead_whole D_matched_well) F_law
theorem walk {l : PySem.W.OpenLaw} {q : Program} {loose : List Str} {XP : (Str → Option Value) → Heap → Prop} {YP : World → Heap → Prop} {d : DefRec} {K : Params → PySem.W.Frag} (hn : l.most = some 63) (hdf : d.params.defaults = [])
    (hY : ∀ (w : World) (h : Heap), YP w h → (K w.params).In h)
    (F : ∀ (w : World) (mg : Str → Option Value) (fa : Addr) (h : Heap), (K w.params).In h → h.Ns mainGlobals mg → mg d.name = some (.ref fa) →
      ∃ fd : FuncData, (∀ (s : Shared) (u : Value), BindsTo s fd ⟨[u], []⟩ [("_law_script", u)]) ∧ ∀ base : Heap, (K w.params).In base → base.Ns mainGlobals mg → FnOk l.prog w (K w.params) mg base CX0 6 fa fd ["_law_script"] (sp_law (K w.params))) :
    PySem.W.WalkO q loose XP YP l.row.toRowW d [] (fun f vs => PySem.call f vs) :=
  L2.walk_of (n := 63) (k := 6) (x := "_law_script") (CX := fun _ => CX0) (sp := fun w => sp_law (K w.params)) hn (by decide) hdf ⟨rfl, by decide, by decide⟩ hY F (fun _ _ a ns hl _ hS => ⟨a, ns, rfl, hS, hl, fun _ => rfl⟩) fun _ _ _ _ _ z => z
end Of
open PySem PySem.W PyProof.Rows
set_option maxRecDepth 100000 in
set_option maxHeartbeats 0 in
theorem PySem.Challenge.cw_orderflow_k02_covers_matched_holds : PySem.Challenge.rw_orderflow_k02_covers_matched.Holds := by
  w_on; o_law; k_head; (case hw => w_witness2)
  k_fill
  refine Of.walk (l := PySem.Challenge.rw_orderflow_k02_covers_matched) rfl rfl (fun w h Y => PySem.W.kIn_of Y) ?F
  case F =>
    intro w mg fa h KX G hmg
    refine' Of.all_mk KX G hmg ?a1 ?l1 ?c1 ?k1 ?a2 ?l2 ?c2 ?k2 ?a3 ?l3 ?c3 ?k3 ?a4 ?l4 ?c4 ?k4 ?a5 ?l5 ?c5 ?k5 ?a6 ?l6 ?c6 ?k6 ?a7 ?l7 ?c7 ?k7 ?a8 ?l8 ?c8 ?k8 ?z1 ?z2 ?z3 ?z4 ?z5 ?z6 ?z7 ?z8 ?z9 ?z10 ?z11 ?z12 ?z13 ?z14 ?z15
    (case a1 => k_is)
    (case l1 => k_is)
    (case c1 => k_is)
    (case k1 => k_is)
    (case a2 => k_is)
    (case l2 => k_is)
    (case c2 => k_is)
    (case k2 => k_is)
    (case a3 => k_is)
    (case l3 => k_is)
    (case c3 => k_is)
    (case k3 => k_is)
    (case a4 => k_is)
    (case l4 => k_is)
    (case c4 => k_is)
    (case k4 => k_is)
    (case a5 => k_is)
    (case l5 => k_is)
    (case c5 => k_is)
    (case k5 => k_is)
    (case a6 => k_is)
    (case l6 => k_is)
    (case c6 => k_is)
    (case k6 => k_is)
    (case a7 => k_is)
    (case l7 => k_is)
    (case c7 => k_is)
    (case k7 => k_is)
    (case a8 => k_is)
    (case l8 => k_is)
    (case c8 => k_is)
    (case k8 => k_is)
    (case z1 => k_is)
    (case z2 => k_is)
    (case z3 => k_is)
    (case z4 => k_is)
    (case z5 => k_is)
    (case z6 => k_is)
    (case z7 => k_is)
    (case z8 => k_is)
    (case z9 => k_is)
    (case z10 => k_is)
    (case z11 => k_is)
    (case z12 => k_is)
    (case z13 => k_is)
    (case z14 => k_is)
    (case z15 => k_is)


