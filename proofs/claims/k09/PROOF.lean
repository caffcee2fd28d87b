import PyProof.Rows.All
import Wide.All
import OpenK.AllK
import Wide.FinOn
import HandS.ForMost
import HandS.Wide
import HandS.IsInst
import HandS.Evl
import HandS.TupAny
import HandS.ForExc
import HandS.TryMany
import HandS.Style
import HandS.Comp
import HandS.ExcOwn
import HandS.ExcIs
import HandS.Star
import HandS.RaiseMore
import HandS.NoneIn
import HandS.HotCalls
import HandS.SetFor
import HandS.ExcInitHot
import HandS.ExcCtx
import PySem.Challenge.RW_orderflow_k09_taken_back
set_option Elab.async false
set_option linter.all false
set_option maxRecDepth 100000
set_option maxHeartbeats 4000000
/-! Short words of our own over the hand layer: a def that may be called by its name, with what it promises. -/
namespace Of
open PySem PyProof.Rows L2
theorem ite_yes {c : Bool} {A B : Prop} (h : c = true) (a : A) : if c = true then A else B := by rw [if_pos h]; exact a
theorem ite_no {c : Bool} {A B : Prop} (h : c = false) (b : B) : if c = true then A else B := by rw [h, if_neg Bool.false_ne_true]; exact b
theorem ite_bang {c : Bool} {A B : Prop} (h : if c = true then B else A) : if (!c) = true then A else B := by cases c <;> exact h
theorem str_yes {x y : Str} (h : decide (V.str x = V.str y) = true) : x = y := V.str.inj (of_decide_eq_true h)
theorem str_not {x y : Str} (h : ¬ decide (V.str x = V.str y) = true) : x ≠ y := fun e => h (decide_eq_true (congrArg V.str e))
/-- the module gives none of the built-ins' names another meaning -/
structure Blt (mg : Str → Option Value) : Prop where
  m_len : mg "len" = none
  m_isinstance : mg "isinstance" = none
  m_int : mg "int" = none
  m_bool : mg "bool" = none
  m_str : mg "str" = none
  m_list : mg "list" = none
  m_tuple : mg "tuple" = none
  m_range : mg "range" = none
  m_sum : mg "sum" = none
  m_min : mg "min" = none
  m_max : mg "max" = none
  m_abs : mg "abs" = none
  m_ValueError : mg "ValueError" = none
/-- the def st stands in the written part under its name -/
structure DefAt (K : PySem.W.Frag) (mg : Str → Option Value) (x : Str) (st : Stmt) (ps : List Str) : Prop where
  ex : ∃ f fd, Fun K x x st f fd ∧ mg x = some (.ref f) ∧ Binds K fd ps []
/-- it may be called by its name, at the level k, with the promise sp; what leaves it besides is told by CX -/
structure Cal (P : Program) (w : World) (K : PySem.W.Frag) (mg : Str → Option Value) (base : Heap) (CX : CXT) (k : Nat) (x : Str) (ps : List Str) (sp : Sp) : Prop where
  ex : ∃ f fd, FnOk P w K mg base CX k f fd ps sp ∧ mg x = some (.ref f) ∧ PySem.W.keepIn K (.ref f) = true ∧ Binds K fd ps []
section
variable {P : Program} {w : World} {K : PySem.W.Frag} {mg : Str → Option Value} {base : Heap}
theorem Cal.mono {CX : CXT} {j k : Nat} {x : Str} {ps : List Str} {sp : Sp} (c : Cal P w K mg base CX j x ps sp) (h : j ≤ k) : Cal P w K mg base CX k x ps sp := by
  obtain ⟨f, fd, F, r⟩ := c.ex
  exact ⟨f, fd, F.mono h, r⟩
theorem Cal.imp {CX : CXT} {k : Nat} {x : Str} {ps : List Str} {sp sp' : Sp} (c : Cal P w K mg base CX k x ps sp) (h : ∀ vs H Q E, sp' vs H Q E → sp vs H Q E) : Cal P w K mg base CX k x ps sp' := by
  obtain ⟨f, fd, F, r⟩ := c.ex
  exact ⟨f, fd, F.imp h, r⟩
theorem cal_of {x : Str} {st : Stmt} {N ps : List Str} {k : Nat} {sp : Sp} (D : DefAt K mg x st ps) (S : FnScope N ps (defScope st)) (len : ∀ vs H Q E, sp vs H Q E → vs.length = ps.length)
    (hbody : ∀ (f : Addr) (cdv : Value) (A : Around) (outer : List Env) (s : Shared) (H : Hp) (vs : List V) (Q : VK) (E : XK), Room k (A.deeper (envOfC x (defScope st) s.heap.objs.size f cdv)) → sp vs H Q E →
      ∃ t, PSs (cxOf CX0 P w K mg base N x (defScope st) f cdv A outer s H E).nox (defBody st) t ∧ t { nx := fun _ H' => Q .non H', rt := Q } (start N vs) H) : Cal P w K mg base CX0 (k + 1) x ps sp := by
  obtain ⟨f, fd, F, hm, hb⟩ := D.ex
  exact ⟨f, fd, F.ok S len fun cdv A outer s H vs Q E hr h => hbody f cdv A outer s H vs Q E hr h, hm, F.kp, hb⟩
end
/-- a def of the text from what the top has written of it -/
theorem defAt_mk {h : Heap} {K : PySem.W.Frag} {mg : Str → Option Value} (X : K.In h) (G : h.Ns mainGlobals mg) {x : Str} {st : Stmt} {ps : List Str} {f : Addr} {oc kV doc pm cd ct : Value} {od an : Option Addr} {sl : Array (Option Value)}
    (a : PySem.W.nsIn K mainGlobals x = some (some (.ref f))) (l : K.lookup f = some ⟨oc, od, .func (PySem.W.fnOf x x (defArgs st) (defBody st) (defScope st) .none kV doc pm an cd ct), sl⟩) (c : PySem.W.codeIn K cd x = true) (k : PySem.W.keepIn K (.ref f) = true)
    (h : ∀ (kV doc pm : Value) (an : Option Addr) (cdv ct : Value) (us : List Value), us.length = ps.length → bindArgs (PySem.W.fnOf x x (defArgs st) (defBody st) (defScope st) .none kV doc pm an cdv ct) ⟨us, []⟩ = pure (ps.zip us)) : DefAt K mg x st ps :=
  have F := fun_mk (st := st) l c k
  ⟨f, _, F, PySem.W.mg_of X G a, F.binds h⟩
section
variable {X : Cx} {CX : CXT} {k : Nat} {ps : List Str} {sp : Sp} {E : XK} {x : Str} {p pos : Pos} {e : Expr} {es : List Expr} {t : TA}
theorem pe_cal (c : Cal X.prog X.w X.K X.mg X.base CX k x ps sp) (hr : Room k X.A) (hx : Passes CX X E) (ha : PA X (e :: es) t) (hg : Gl X x := by rfl) (hdb : (x == ("__debug__" : Str)) = false := by decide)
    (he : starEach (e :: es) X.env = (false, eval e X.env) :: starEach es X.env := by rfl) (hpl : (backTo pos (starEach es X.env)).any (·.1) = false := by rfl) :
    PE X (.Call (.Name x p) (e :: es) [] pos) (tCall sp [] E t) := by
  obtain ⟨f, fd, F, hm, hk, hb⟩ := c.ex
  exact pe_call F hr hg hm hk hb .nil hx ha hdb he hpl
end
/-! ### the rules that lean on the written part, K said outright (so that they serve within a comprehension) -/
section
variable {X : Cx}
theorem kx_list (K : PySem.W.Frag) (h : X.K = K := by rfl) : IxR X (rIxL K) := h ▸ ix_list
theorem kx_tup (K : PySem.W.Frag) (h : X.K = K := by rfl) : IxR X (rIxT K) := h ▸ ix_tup
theorem kc_len (K : PySem.W.Frag) (h : X.K = K := by rfl) : CallR X (.builtin "len") (fun xs H Q => ∃ p ys, xs = [.ref p] ∧ (SqL K H p ys ∨ SqT K H p ys) ∧ Q (.int ys.length) H) := h ▸ call_len_seq
theorem kc_list (K : PySem.W.Frag) (h : X.K = K := by rfl) : CallR X (.type "list") (fun xs H Q => ∃ p ys, xs = [.ref p] ∧ (SqL K H p ys ∨ SqT K H p ys) ∧ ∀ l, H l = none → Q (.ref l) (upd H l (.lst ys))) := h ▸ call_list_of
theorem kc_tuple (K : PySem.W.Frag) (h : X.K = K := by rfl) : CallR X (.type "tuple") (fun xs H Q => ∃ p ys, xs = [.ref p] ∧ ((SqL K H p ys ∧ ∀ l, H l = none → Q (.ref l) (upd H l (.tup ys))) ∨ (SqT K H p ys ∧ Q (.ref p) H))) := h ▸ call_tuple_of
theorem kc_isi (K : PySem.W.Frag) (h : X.K = K := by rfl) : CallR X (.builtin "isinstance") (rIsi K) := h ▸ call_isi
theorem kc_sum (K : PySem.W.Frag) (hc : X.calm = true) (h : X.K = K := by rfl) : CallR X (.builtin "sum") (rSum K) := h ▸ cr_sum hc
theorem kc_min (K : PySem.W.Frag) (hc : X.calm = true) (h : X.K = K := by rfl) : CallR X (.builtin "min") (rMin K) := h ▸ cr_min hc
theorem kc_max (K : PySem.W.Frag) (hc : X.calm = true) (h : X.K = K := by rfl) : CallR X (.builtin "max") (rMax K) := h ▸ cr_max hc
theorem ko_in (K : PySem.W.Frag) (h : X.K = K := by rfl) : OpR X (compareOp .In) (rIn K false) := h ▸ op_in_seq
theorem ko_notIn (K : PySem.W.Frag) (h : X.K = K := by rfl) : OpR X (compareOp .NotIn) (rIn K true) := h ▸ op_notIn_seq
theorem ko_eqD (K : PySem.W.Frag) (hu : X.A.units + 64 < cLine) (h : X.K = K := by rfl) : OpR X (compareOp .Eq) (rEqD K) := h ▸ op_eqD hu
theorem ko_neD (K : PySem.W.Frag) (hu : X.A.units + 64 < cLine) (h : X.K = K := by rfl) : OpR X (compareOp .NotEq) (rNeD K) := h ▸ op_neD hu
theorem ks_list (K : PySem.W.Frag) (h : X.K = K := by rfl) : SlR X (rSlL K) := h ▸ sl_list
theorem ks_tup (K : PySem.W.Frag) (h : X.K = K := by rfl) : SlR X (rSlA K) := h ▸ sl_tupA
theorem ki_list (K : PySem.W.Frag) {tg l : Expr} {tl : TE} (hl : PE X l tl) (h : X.K = K := by rfl) : PI X tg l (iList K tl) := h ▸ pi_list hl
theorem ki_tup (K : PySem.W.Frag) {tg l : Expr} {tl : TE} (hl : PE X l tl) (h : X.K = K := by rfl) : PI X tg l (iTup K tl) := h ▸ pi_tup hl
end
end Of

set_option Elab.async false
set_option linter.all false
set_option maxRecDepth 100000
set_option maxHeartbeats 4000000
/-! Data of any depth, lists and their places: what the laws' own helpers lean on. -/
namespace L2
open PySem PyProof.Rows
section
variable {K : PySem.W.Frag} {H H' : Hp} {a : Addr} {xs : List V} {v : V}
theorem same_l (e : Same H H') (h : SqL K H a xs) : SqL K H' a xs := e.seq h
theorem same_rd {u : HO} (e : Same H H') (h : Rd H a u) : Rd H' a u := by
  rcases h with h | ⟨o, h⟩
  · exact .inl (e _ _ h)
  · exact .inr ⟨o, e _ _ h⟩
theorem same_t (e : Same H H') (h : SqT K H a xs) : SqT K H' a xs := by
  rcases h with h | h
  · exact .inl (same_rd e h)
  · exact .inr h
theorem same_new {o : HO} (h : H a = none) : Same H (upd H a o) := fun b u e => by
  rw [upd_ne (ne_of_none e h)]
  exact e
/-- what does not stand in H may change -/
theorem same_mut {F : Hp} {o : HO} (e : Same F H) (h : F a = none) : Same F (upd H a o) := fun b u q => by
  rw [upd_ne (ne_of_none q h)]
  exact e _ _ q
mutual
theorem dp_same (e : Same H H') : ∀ (d : PyData) (v : V), Dp K H v d → Dp K H' v d
  | .none, _, h => by cases h; exact .non
  | .bool b, _, h => by cases h; exact .bl _
  | .int i, _, h => by cases h; exact .int _
  | .str x, _, h => by cases h; exact .str _
  | .list ds, _, h => by
    cases h with
    | lst s r => exact .lst (same_l e s) (dpAll_same e ds _ r)
  | .tuple ds, _, h => by
    cases h with
    | tup s r => exact .tup (same_t e s) (dpAll_same e ds _ r)
  | .dict _, _, h => by cases h
theorem dpAll_same (e : Same H H') : ∀ (ds : List PyData) (vs : List V), DpAll K H vs ds → DpAll K H' vs ds
  | [], _, h => by cases h; exact .nil
  | d :: ds, _, h => by
    cases h with
    | cons h1 h2 => exact .cons (dp_same e d _ h1) (dpAll_same e ds _ h2)
end
theorem Dp.same {d : PyData} (h : Dp K H v d) (e : Same H H') : Dp K H' v d := dp_same e d v h
theorem DpAll.same {ds : List PyData} {vs : List V} (h : DpAll K H vs ds) (e : Same H H') : DpAll K H' vs ds := dpAll_same e ds vs h
theorem DpAll.length : ∀ {vs : List V} {ds : List PyData}, DpAll K H vs ds → vs.length = ds.length
  | _, _, .nil => rfl
  | _, _, .cons _ r => by simp only [List.length_cons, DpAll.length r]
theorem DpAll.get : ∀ {vs : List V} {ds : List PyData} {i : Nat} {d : PyData}, DpAll K H vs ds → ds[i]? = some d → ∃ v, vs[i]? = some v ∧ Dp K H v d
  | _, _, _, _, .nil, h => by simp at h
  | _, _, 0, _, .cons (v := v) p _, h => by
    have h := Option.some.inj h
    subst h
    exact ⟨v, rfl, p⟩
  | _, _, i + 1, d, .cons _ r, h => by
    obtain ⟨v, h1, h2⟩ := DpAll.get (i := i) (d := d) r h
    exact ⟨v, h1, h2⟩
theorem DpAll.got : ∀ {vs : List V} {ds : List PyData} {i : Nat} {v : V}, DpAll K H vs ds → vs[i]? = some v → ∃ d, ds[i]? = some d ∧ Dp K H v d
  | _, _, _, _, .nil, h => by simp at h
  | _, _, 0, _, .cons (d := d) p _, h => by
    have h := Option.some.inj h
    subst h
    exact ⟨d, rfl, p⟩
  | _, _, i + 1, v, .cons _ r, h => by
    obtain ⟨d, h1, h2⟩ := DpAll.got (i := i) (v := v) r h
    exact ⟨d, h1, h2⟩
theorem DpAll.append : ∀ {vs ws : List V} {ds es : List PyData}, DpAll K H vs ds → DpAll K H ws es → DpAll K H (vs ++ ws) (ds ++ es)
  | _, _, _, _, .nil, s => s
  | _, _, _, _, .cons p r, s => .cons p (DpAll.append r s)
theorem DpAll.take : ∀ {vs : List V} {ds : List PyData} (n : Nat), DpAll K H vs ds → DpAll K H (vs.take n) (ds.take n)
  | _, _, 0, _ => .nil
  | _, _, _ + 1, .nil => .nil
  | _, _, n + 1, .cons p r => .cons p (DpAll.take n r)
theorem DpAll.drop : ∀ {vs : List V} {ds : List PyData} (n : Nat), DpAll K H vs ds → DpAll K H (vs.drop n) (ds.drop n)
  | _, _, 0, r => r
  | _, _, _ + 1, .nil => .nil
  | _, _, n + 1, .cons _ r => DpAll.drop n r
theorem dpAll_ints : ∀ ns : List Int, DpAll K H (ns.map V.int) (ns.map PyData.int)
  | [] => .nil
  | n :: ns => .cons (.int n) (dpAll_ints ns)
theorem dpAll_ints_inv : ∀ {ns : List Int} {vs : List V}, DpAll K H vs (ns.map PyData.int) → vs = ns.map V.int
  | [], _, h => by cases h; rfl
  | n :: ns, _, h => by
    cases h with
    | cons p r => cases p; rw [dpAll_ints_inv r]; rfl
theorem dp_int {i : Int} (h : Dp K H v (.int i)) : v = .int i := by cases h; rfl
theorem dp_str {x : Str} (h : Dp K H v (.str x)) : v = .str x := by cases h; rfl
theorem dp_list {ds : List PyData} (h : Dp K H v (.list ds)) : ∃ a xs, v = .ref a ∧ SqL K H a xs ∧ DpAll K H xs ds := by
  cases h with
  | lst s r => exact ⟨_, _, rfl, s, r⟩
theorem dp_tuple {ds : List PyData} (h : Dp K H v (.tuple ds)) : ∃ a xs, v = .ref a ∧ SqT K H a xs ∧ DpAll K H xs ds := by
  cases h with
  | tup s r => exact ⟨_, _, rfl, s, r⟩
/-! ### isinstance -/
theorem tyx_l (h : SqL K H a xs) : TyX K H (.ref a) (.type "list") := by
  rcases h with (h | ⟨o, h⟩) | ⟨o, its, n, h, c, _⟩
  · exact .base (.lst h)
  · exact .base (.frz h)
  · exact .kList h c
theorem tyx_t (h : SqT K H a xs) : TyX K H (.ref a) (.type "tuple") := by
  rcases h with (h | ⟨o, h⟩) | ⟨o, its, n, h, c, _⟩
  · exact .base (.tup h)
  · exact .fTuple h
  · exact .kTuple h c
/-- the name of a datum's class -/
def tyName : PyData → String
  | .none => "NoneType" | .bool _ => "bool" | .int _ => "int" | .str _ => "str" | .list _ => "list" | .tuple _ => "tuple" | .dict _ => "dict"
theorem tyx_dp : ∀ {d : PyData}, Dp K H v d → TyX K H v (.type (tyName d))
  | .none, h => by cases h; exact .base .non
  | .bool _, h => by cases h; exact .base (.bl _)
  | .int _, h => by cases h; exact .base (.int _)
  | .str _, h => by cases h; exact .base (.str _)
  | .list _, h => by cases h with | lst s _ => exact tyx_l s
  | .tuple _, h => by cases h with | tup s _ => exact tyx_t s
/-- isinstance(x, T) by the names of two built-in classes -/
def isN (n T : String) : Bool := kitB n T == some true
theorem kitB_all : ∀ n ∈ ["NoneType", "int", "bool", "str", "list", "tuple"], ∀ T ∈ ["int", "bool", "str", "list", "tuple"], kitB n T = some (isN n T) := by decide +kernel
/-! ### == of data -/
theorem shaped_of {d : PyData} (h1 : d.canLay0 = true) (h2 : d.depth ≤ 64) : SeqAt.shaped d = true := by
  unfold SeqAt.shaped
  rw [h1, decide_eq_true h2]
  rfl
theorem eqv_self {d : PyData} (h : SeqAt.shaped d = true) : PyData.eqv d d = true := SeqAt.eqv_refl d (SeqAt.canLay_of_shaped h)
/-- data without dicts, at most n lists or tuples deep, their texts of proper signs -/
def fl : Nat → PyData → Bool
  | _, .none => true
  | _, .bool _ => true
  | _, .int _ => true
  | _, .str x => PyData.strOk x
  | n + 1, .list xs => xs.all (fl n)
  | n + 1, .tuple xs => xs.all (fl n)
  | _, _ => false
theorem fl_all {n : Nat} (f : ∀ d, fl n d = true → d.canLay0 = true ∧ d.depth ≤ n) : ∀ xs : List PyData, xs.all (fl n) = true → PyData.canLayAll0 xs = true ∧ PyData.depthAll xs ≤ n
  | [], _ => ⟨rfl, by unfold PyData.depthAll; omega⟩
  | x :: xs, h => by
    rw [List.all_cons, Bool.and_eq_true] at h
    obtain ⟨h1, h2⟩ := f x h.1
    obtain ⟨h3, h4⟩ := fl_all f xs h.2
    refine ⟨?_, ?_⟩
    · unfold PyData.canLayAll0; rw [h1, h3]; rfl
    · unfold PyData.depthAll; omega
theorem fl_ok : ∀ (n : Nat) (d : PyData), fl n d = true → d.canLay0 = true ∧ d.depth ≤ n
  | n, .none, _ => ⟨rfl, by unfold PyData.depth; omega⟩
  | n, .bool _, _ => ⟨rfl, by unfold PyData.depth; omega⟩
  | n, .int _, _ => ⟨rfl, by unfold PyData.depth; omega⟩
  | n, .str x, h => ⟨by
      cases n <;> exact h, by unfold PyData.depth; omega⟩
  | 0, .list xs, h => by cases h
  | 0, .tuple xs, h => by cases h
  | n + 1, .list xs, h => by
    obtain ⟨h1, h2⟩ := fl_all (fl_ok n) xs h
    exact ⟨h1, by unfold PyData.depth; omega⟩
  | n + 1, .tuple xs, h => by
    obtain ⟨h1, h2⟩ := fl_all (fl_ok n) xs h
    exact ⟨h1, by unfold PyData.depth; omega⟩
  | 0, .dict _, h => by cases h
  | n + 1, .dict _, h => by cases h
theorem shaped_fl {n : Nat} {d : PyData} (h : fl n d = true) (hn : n ≤ 64 := by decide) : SeqAt.shaped d = true :=
  have k := fl_ok n d h
  shaped_of k.1 (Nat.le_trans k.2 hn)
theorem fl_mono : ∀ {n m : Nat} {d : PyData}, fl n d = true → n ≤ m → fl m d = true
  | _, m, .none, _, _ => by cases m <;> rfl
  | _, m, .bool _, _, _ => by cases m <;> rfl
  | _, m, .int _, _, _ => by cases m <;> rfl
  | n, m, .str x, h, _ => by cases n <;> cases m <;> exact h
  | 0, _, .list xs, h, _ => by cases h
  | 0, _, .tuple xs, h, _ => by cases h
  | n + 1, 0, .list xs, h, l => by omega
  | n + 1, 0, .tuple xs, h, l => by omega
  | n + 1, m + 1, .list xs, h, l => by
    show xs.all (fl m) = true
    have h : xs.all (fl n) = true := h
    rw [List.all_eq_true] at h ⊢
    exact fun x hx => fl_mono (h x hx) (by omega)
  | n + 1, m + 1, .tuple xs, h, l => by
    show xs.all (fl m) = true
    have h : xs.all (fl n) = true := h
    rw [List.all_eq_true] at h ⊢
    exact fun x hx => fl_mono (h x hx) (by omega)
  | 0, _, .dict _, h, _ => by cases h
  | n + 1, _, .dict _, h, _ => by cases h
theorem fl_ints (n : Nat) (ns : List Int) : (ns.map PyData.int).all (fl n) = true := by
  rw [List.all_eq_true]
  intro x hx
  obtain ⟨i, _, rfl⟩ := List.mem_map.mp hx
  cases n <;> rfl
end
end L2
namespace Of
open PySem PyProof.Rows L2
/-! ### what is owned (and may change) set aside: all else stands still -/
open Classical in
noncomputable def off (fp : Addr → Prop) (H : Hp) : Hp := fun a => if fp a then none else H a
/-- what is owned stands -/
def Has (fp : Addr → Prop) (H : Hp) : Prop := ∀ a, fp a → H a ≠ none
section
variable {K : PySem.W.Frag} {H H' : Hp} {a p D : Addr} {xs : List V} {v : V} {fp fq : Addr → Prop} {o : HO}
theorem off_in (h : fp a) : off fp H a = none := if_pos h
theorem off_out (h : ¬ fp a) : off fp H a = H a := if_neg h
theorem off_some {u : HO} (h : off fp H a = some u) : ¬ fp a ∧ H a = some u := by
  unfold off at h
  split at h
  · cases h
  · exact ⟨by assumption, h⟩
theorem off_same : Same (off fp H) H := fun _ _ h => (off_some h).2
theorem off_mono (e : Same H H') : Same (off fp H) (off fp H') := fun b u h => by
  obtain ⟨h1, h2⟩ := off_some h
  rw [off_out h1]
  exact e _ _ h2
theorem off_less (h : ∀ a, fp a → fq a) : Same (off fq H) (off fp H) := fun b u q => by
  obtain ⟨h1, h2⟩ := off_some q
  rw [off_out fun z => h1 (h b z)]
  exact h2
theorem off_upd (h : fp p) : off fp (upd H p o) = off fp H := by
  funext b
  by_cases hb : fp b
  · rw [off_in hb, off_in hb]
  · rw [off_out hb, off_out hb, upd_ne fun z => hb (by rw [z]; exact h)]
theorem off_put (h : ¬ fp p) : off fp (upd H p o) p = some o := by rw [off_out h, upd_same]
theorem Has.new (h : Has fp H) (hp : H p = none) : ¬ fp p := fun z => h p z hp
theorem Has.same (h : Has fp H) (e : Same H H') : Has fp H' := fun b z q => by
  cases x : H b with
  | none => exact h b z x
  | some u => rw [e b u x] at q; cases q
theorem Has.upd (h : Has fp H) : Has fp (upd H p o) := fun b z q => by
  by_cases hb : b = p
  · rw [hb, upd_same] at q; cases q
  · rw [upd_ne hb] at q; exact h b z q
theorem has_none : Has (fun _ => False) H := fun _ z => z.elim
theorem off_none : off (fun _ => False) H = H := by
  funext b
  exact if_neg id
theorem Has.off (h : Has fp H) (e : Same (off fp H) H') (hf : ∀ a, fp a → H' a ≠ none) : Has fp H' := hf
/-- a new tuple of data -/
theorem dp_tup_new {ds : List PyData} (hf : Has fp H) (hp : H p = none) (h : DpAll K (off fp H) xs ds) : Dp K (off fp (upd H p (.tup xs))) (.ref p) (.tuple ds) :=
  .tup (.inl (.inl (off_put (hf.new hp)))) (h.same (off_mono (same_new hp)))
theorem dp_lst_new {ds : List PyData} (hf : Has fp H) (hp : H p = none) (h : DpAll K (off fp H) xs ds) : Dp K (off fp (upd H p (.lst xs))) (.ref p) (.list ds) :=
  .lst (.inl (.inl (off_put (hf.new hp)))) (h.same (off_mono (same_new hp)))
/-- what is owned, and the list in the making -/
abbrev And1 (fp : Addr → Prop) (D : Addr) : Addr → Prop := fun a => fp a ∨ a = D
theorem Has.and1 (h : Has fp H) (hD : H D ≠ none) : Has (And1 fp D) H := fun b z => by
  rcases z with z | z
  · exact h b z
  · rw [z]; exact hD
theorem wipe1 {σ : L2.St} {j : Nat} {x : Option V} : wipe ((wipe σ [j]).set j x) [j] = wipe σ [j] := by
  show ((σ.set j none).set j x).set j none = σ.set j none
  rw [List.set_set, List.set_set]
theorem take_succ' {α : Type} {l : List α} {i : Nat} {x : α} (h : l[i]? = some x) : l.take (i + 1) = l.take i ++ [x] := by
  rw [List.take_add_one, h]; rfl
/-- [e for x in xs] over a list, each e a datum; x in the slot j -/
theorem lcD_list {te : TE} {σ : L2.St} {j : Nat} {H1 : Hp} {Qd : Hp → Prop} (ds : List PyData) (hl : xs.length = ds.length) (hz : ds.length ≤ 100000) (hS : SqL K H1 a xs) (hD : H1 D = none) (hf : Has fp H1)
    (turn : ∀ (i : Nat) (x : V) (d : PyData) (H : Hp) (R : VK), xs[i]? = some x → ds[i]? = some d → Same H1 H → Has (And1 fp D) H → (∀ y H', Same H H' → Dp K (off (And1 fp D) H') y d → R y H') → te ((wipe σ [j]).set j (some x)) H R)
    (fin : ∀ H' ys, Same H1 H' → H' D = some (.lst ys) → DpAll K (off (And1 fp D) H') ys ds → Dp K (off fp H') (.ref D) (.list ds) → Qd H') :
    ∃ W : Nat → Nat → Hp → Prop, (∃ m, W 0 m (upd H1 D (.lst []))) ∧ ∀ i m H, W i m H →
      ((Itl K a).stop i H ∧ Qd H) ∨ ((Itl K a).go i H ∧ ∃ Nx : Hp → Prop, (∀ H', Nx H' → ∃ m', m' < m ∧ W (i + 1) m' H') ∧ ∀ x H', (Itl K a).yld i H x H' → gName j x (wipe σ [j]) H' fun σ2 H2 => wipe σ2 [j] = wipe σ [j] ∧ tYes σ2 H2 fun b H3 =>
        if b = true then te σ2 H3 fun y H4 => ∃ acc, H4 D = some (.lst acc) ∧ acc.length < sizeLine ∧ Nx (upd H4 D (.lst (acc ++ [y]))) else Nx H3) := by
  refine lc_list (K := K) (a := a) (xs := xs) (fun i H => ∃ ys, Same H1 H ∧ H D = some (.lst ys) ∧ DpAll K (off (And1 fp D) H) ys (ds.take i)) ⟨[], same_new hD, upd_same, .nil⟩ (fun i H _ ⟨_, s, _⟩ => same_l s hS) ?_ ?_
  · rintro i x H hx ⟨ys, s, hd, r⟩
    have hi : i < ds.length := by
      have := (List.getElem?_eq_some_iff.mp hx).1
      omega
    have hf1 : Has (And1 fp D) H := (hf.same s).and1 (by rw [hd]; exact fun z => nomatch z)
    refine ⟨wipe1, ?_⟩
    refine turn i x ds[i] H _ hx (List.getElem?_eq_getElem hi) s hf1 fun y H4 s4 r4 => ?_
    have hd4 : H4 D = some (.lst ys) := s4 _ _ hd
    have hn := r.length
    rw [List.length_take] at hn
    refine ⟨ys, hd4, Evl.sz_lt (by omega), ys ++ [y], same_mut (s.trans s4) hD, upd_same, ?_⟩
    rw [off_upd (Or.inr rfl), take_succ' (List.getElem?_eq_getElem hi)]
    exact (r.same (off_mono s4)).append (.cons r4 .nil)
  · rintro H ⟨ys, s, hd, r⟩
    rw [hl, List.take_length] at r
    refine fin H ys s hd r (.lst (.inl (.inl ?_)) (r.same (off_less fun _ z => Or.inl z)))
    rw [off_out (hf.new hD), hd]
/-- .. over range(n) -/
theorem lcD_range {te : TE} {σ : L2.St} {j : Nat} {H1 : Hp} {Qd : Hp → Prop} {n : Nat} (ds : List PyData) (hl : n = ds.length) (hz : ds.length ≤ 100000) (hD : H1 D = none) (hf : Has fp H1)
    (turn : ∀ (i : Nat) (d : PyData) (H : Hp) (R : VK), i < n → ds[i]? = some d → Same H1 H → Has (And1 fp D) H → (∀ y H', Same H H' → Dp K (off (And1 fp D) H') y d → R y H') → te ((wipe σ [j]).set j (some (.int (0 + (i : Int))))) H R)
    (fin : ∀ H' ys, Same H1 H' → H' D = some (.lst ys) → DpAll K (off (And1 fp D) H') ys ds → Dp K (off fp H') (.ref D) (.list ds) → Qd H') :
    ∃ W : Nat → Nat → Hp → Prop, (∃ m, W 0 m (upd H1 D (.lst []))) ∧ ∀ i m H, W i m H →
      ((Itr 0 n).stop i H ∧ Qd H) ∨ ((Itr 0 n).go i H ∧ ∃ Nx : Hp → Prop, (∀ H', Nx H' → ∃ m', m' < m ∧ W (i + 1) m' H') ∧ ∀ x H', (Itr 0 n).yld i H x H' → gName j x (wipe σ [j]) H' fun σ2 H2 => wipe σ2 [j] = wipe σ [j] ∧ tYes σ2 H2 fun b H3 =>
        if b = true then te σ2 H3 fun y H4 => ∃ acc, H4 D = some (.lst acc) ∧ acc.length < sizeLine ∧ Nx (upd H4 D (.lst (acc ++ [y]))) else Nx H3) := by
  refine lc_range (lo := 0) (n := n) (fun i H => ∃ ys, Same H1 H ∧ H D = some (.lst ys) ∧ DpAll K (off (And1 fp D) H) ys (ds.take i)) ⟨[], same_new hD, upd_same, .nil⟩ ?_ ?_
  · rintro i H hx ⟨ys, s, hd, r⟩
    have hi : i < ds.length := by omega
    have hf1 : Has (And1 fp D) H := (hf.same s).and1 (by rw [hd]; exact fun z => nomatch z)
    refine ⟨wipe1, ?_⟩
    refine turn i ds[i] H _ hx (List.getElem?_eq_getElem hi) s hf1 fun y H4 s4 r4 => ?_
    have hd4 : H4 D = some (.lst ys) := s4 _ _ hd
    have hn := r.length
    rw [List.length_take] at hn
    refine ⟨ys, hd4, Evl.sz_lt (by omega), ys ++ [y], same_mut (s.trans s4) hD, upd_same, ?_⟩
    rw [off_upd (Or.inr rfl), take_succ' (List.getElem?_eq_getElem hi)]
    exact (r.same (off_mono s4)).append (.cons r4 .nil)
  · rintro H ⟨ys, s, hd, r⟩
    rw [hl, List.take_length] at r
    refine fin H ys s hd r (.lst (.inl (.inl ?_)) (r.same (off_less fun _ z => Or.inl z)))
    rw [off_out (hf.new hD), hd]
/-- [e for x in xs if t] over a list of ints, each e an int -/
theorem lcI_filter {tt : TT} {te : TE} {σ : L2.St} {j : Nat} {H1 : Hp} {Qd : Hp → Prop} {ns : List Int} (c : Int → Bool) (f : Int → Int) (hz : ns.length ≤ 100000) (hS : SqL K H1 a (ns.map V.int)) (hD : H1 D = none)
    (test : ∀ (x : Int) (H : Hp) (R : Bool → Hp → Prop), Same H1 H → R (c x) H → tt ((wipe σ [j]).set j (some (.int x))) H R)
    (turn : ∀ (x : Int) (H : Hp) (R : VK), Same H1 H → R (.int (f x)) H → te ((wipe σ [j]).set j (some (.int x))) H R)
    (fin : ∀ H', Same H1 H' → H' D = some (.lst (((ns.filter c).map f).map V.int)) → Qd H') :
    ∃ W : Nat → Nat → Hp → Prop, (∃ m, W 0 m (upd H1 D (.lst []))) ∧ ∀ i m H, W i m H →
      ((Itl K a).stop i H ∧ Qd H) ∨ ((Itl K a).go i H ∧ ∃ Nx : Hp → Prop, (∀ H', Nx H' → ∃ m', m' < m ∧ W (i + 1) m' H') ∧ ∀ x H', (Itl K a).yld i H x H' → gName j x (wipe σ [j]) H' fun σ2 H2 => wipe σ2 [j] = wipe σ [j] ∧ tt σ2 H2 fun b H3 =>
        if b = true then te σ2 H3 fun y H4 => ∃ acc, H4 D = some (.lst acc) ∧ acc.length < sizeLine ∧ Nx (upd H4 D (.lst (acc ++ [y]))) else Nx H3) := by
  refine lc_list (K := K) (a := a) (xs := ns.map V.int) (fun i H => Same H1 H ∧ H D = some (.lst ((((ns.take i).filter c).map f).map V.int))) ⟨same_new hD, upd_same⟩ (fun i H _ ⟨s, _⟩ => same_l s hS) ?_ ?_
  · rintro i x H hx ⟨s, hd⟩
    rw [List.getElem?_map] at hx
    cases e : ns[i]? with
    | none => rw [e] at hx; cases hx
    | some n =>
      rw [e] at hx
      have hx := Option.some.inj hx
      subst hx
      have hi : i < ns.length := (List.getElem?_eq_some_iff.mp e).1
      refine ⟨wipe1, test n H _ s ?_⟩
      refine ite2 (fun h => ?_) (fun h => ?_)
      · refine turn n H _ s ⟨_, hd, Evl.sz_lt ?_, same_mut s hD, ?_⟩
        · rw [List.length_map, List.length_map]
          have h1 := List.length_filter_le c (ns.take i)
          have h2 := List.length_take (i := i) (l := ns)
          omega
        · rw [upd_same, take_succ' e, List.filter_append, List.map_append, List.map_append]
          have e1 : [n].filter c = [n] := by simp [h]
          rw [e1]; rfl
      · refine ⟨s, ?_⟩
        rw [hd, take_succ' e, List.filter_append]
        have e1 : [n].filter c = [] := by simp [h]
        rw [e1, List.append_nil]
  · rintro H ⟨s, hd⟩
    rw [List.length_map, List.take_length] at hd
    exact fin H s hd
end
end Of

set_option Elab.async false
set_option linter.all false
set_option maxRecDepth 100000
set_option maxHeartbeats 4000000
/-! The plain account of orders: what the document says a deed does, as functions of data. -/
namespace Of
open PySem PyProof.Rows L2
structure Ln where
  item : Str
  pieces : Int
  cents : Int
  pack : Int
  sent : Int
  home : Int
  again : Int
  credited : Int
structure Od where
  lines : List Ln
  paid : Int
  rows : List (Str × Int)
def Ln.worth (l : Ln) : Int := (l.sent - l.home) * l.cents / l.pack
def Ln.charge (l : Ln) : Int := l.worth - l.credited
def Od.owed (m : Od) : Int := (m.lines.map Ln.charge).sum - m.paid
/-- a line as it is ordered -/
structure LineT where
  item : Str
  pieces : Int
  cents : Int
  pack : Int
def LineT.new (t : LineT) : Ln := ⟨t.item, t.pieces, t.cents, t.pack, 0, 0, 0, 0⟩
inductive Deed where
  | ord (ls : List LineT)
  | goods (w : Str) (o l n : Int)
  | money (w : Str) (o n : Int)
  | move (o p n : Int)
def Deed.word : Deed → Str
  | .ord _ => "order"
  | .goods w _ _ _ => w
  | .money w _ _ => w
  | .move _ _ _ => "move"
def GoodsW (w : Str) : Prop := w = "deliver" ∨ w = "back" ∨ w = "swap" ∨ w = "credit"
def MoneyW (w : Str) : Prop := w = "pay" ∨ w = "refund"
/-- the words are those of the eight -/
def Deed.Shape : Deed → Prop
  | .ord _ => True
  | .goods w _ _ _ => GoodsW w
  | .money w _ _ => MoneyW w
  | .move _ _ _ => True
/-- n lies from nought on below the length -/
def inR (n : Int) (k : Nat) : Bool := decide (0 ≤ n) && decide (n < (k : Int))
theorem inR_iff {n : Int} {k : Nat} : inR n k = true ↔ 0 ≤ n ∧ n < (k : Int) := by
  unfold inR; rw [Bool.and_eq_true, decide_eq_true_eq, decide_eq_true_eq]
def ordAt (M : List Od) (n : Int) : Od := M.getD n.toNat ⟨[], 0, []⟩
def lnAt (m : Od) (n : Int) : Ln := m.lines.getD n.toNat ⟨⟨#[]⟩, 0, 0, 0, 0, 0, 0, 0⟩
/-- as many as go, of a line -/
def mostL (w : Str) (l : Ln) : Int := if w = "deliver" then l.pieces - l.sent + l.again else if w = "credit" then l.charge else l.sent - l.home
def mostM (w : Str) (at_ pl : Int) (M : List Od) : Int :=
  if inR at_ M.length = false then 5
  else if w = "pay" then (ordAt M at_).owed
  else if w = "refund" ∨ w = "move" then -(ordAt M at_).owed
  else if inR pl (ordAt M at_).lines.length = false then 5
  else mostL w (lnAt (ordAt M at_) pl)
/-- the class that refuses a deed on books whose orders are all right, or the empty text -/
def refusalM (M : List Od) : Deed → Str
  | .ord _ => ""
  | .goods w o l n =>
    if inR o M.length = false then "NoOrder"
    else if inR l (ordAt M o).lines.length = false then "NoLine"
    else if n < 1 then "NoNumber"
    else if mostM w o l M < n then "TooMuch" else ""
  | .money w o n =>
    if inR o M.length = false then "NoOrder"
    else if n < 1 then "NoNumber"
    else if ¬ w = "pay" ∧ mostM w o 0 M < n then "TooMuch" else ""
  | .move o p n =>
    if inR o M.length = false ∨ inR p M.length = false then "NoOrder"
    else if o = p then "SameOrder"
    else if n < 1 then "NoNumber"
    else if mostM "move" o 0 M < n then "TooMuch" else ""
def turnL (w : Str) (n : Int) (l : Ln) : Ln :=
  if w = "deliver" then { l with sent := l.sent + n }
  else if w = "credit" then { l with credited := l.credited + n }
  else
    let b : Ln := { l with home := l.home + n, again := l.again + (if w = "swap" then n else 0) }
    { b with credited := min l.credited b.worth }
def setLine (m : Od) (j : Nat) (l : Ln) : Od := { m with lines := m.lines.set j l }
def addPaid (m : Od) (n : Int) : Od := { m with paid := m.paid + n }
def addRow (m : Od) (w : Str) (c : Int) : Od := { m with rows := m.rows ++ [(w, c)] }
/-- what a deed turns, no rows yet -/
def turnM (M : List Od) : Deed → List Od
  | .ord _ => M
  | .goods w o l n => M.set o.toNat (setLine (ordAt M o) l.toNat (turnL w n (lnAt (ordAt M o) l)))
  | .money w o n => M.set o.toNat (addPaid (ordAt M o) (if w = "pay" then n else -n))
  | .move o p n => (M.set o.toNat (addPaid (ordAt M o) (-n))).set p.toNat (addPaid (ordAt M p) n)
def placesM : Deed → List Int
  | .ord _ => []
  | .goods _ o _ _ => [o]
  | .money _ o _ => [o]
  | .move o p _ => [o, p]
def changesM (M : List Od) (d : Deed) : List (Int × Int) := (placesM d).map fun a => (a, (ordAt (turnM M d) a).owed - (ordAt M a).owed)
def rowsM (M : List Od) (w : Str) (cs : List (Int × Int)) : List Od := cs.foldl (fun M c => M.set c.1.toNat (addRow (ordAt M c.1) w c.2)) M
def stepM (M : List Od) (d : Deed) : List Od :=
  match d with
  | .ord ls => M ++ [⟨ls.map LineT.new, 0, []⟩]
  | d => rowsM (turnM M d) d.word (changesM M d)
/-! ### what stands of every account -/
structure Ln.Ok (l : Ln) : Prop where
  c0 : 0 ≤ l.cents
  c1 : l.cents ≤ 1000000000
  p0 : 1 ≤ l.pack
  p1 : l.pack ≤ 1000
  it : PyData.strOk l.item = true
structure Od.Ok (m : Od) : Prop where
  ne : 1 ≤ m.lines.length
  le : m.lines.length ≤ 20
  ln : ∀ l ∈ m.lines, l.Ok
  rw : ∀ r ∈ m.rows, PyData.strOk r.1 = true
structure WF (M : List Od) : Prop where
  ok : ∀ m ∈ M, m.Ok
/-! ### as data -/
def rowD (r : Str × Int) : PyData := .tuple [.str r.1, .int r.2]
def lnD (l : Ln) : PyData := .list [.str l.item, .int l.pieces, .int l.cents, .int l.pack, .int l.sent, .int l.home, .int l.again, .int l.credited]
def odD (m : Od) : PyData := .list [.list (m.lines.map lnD), .int m.paid, .list (m.rows.map rowD)]
def lineD (t : LineT) : PyData := .tuple [.str t.item, .int t.pieces, .int t.cents, .int t.pack]
def deedD : Deed → PyData
  | .ord ls => .tuple [.str "order", .list (ls.map lineD)]
  | .goods w o l n => .tuple [.str w, .int o, .int l, .int n]
  | .money w o n => .tuple [.str w, .int o, .int n]
  | .move o p n => .tuple [.str "move", .int o, .int p, .int n]
def chD (c : Int × Int) : PyData := .tuple [.int c.1, .int c.2]
def changesD (cs : List (Int × Int)) : PyData := .list (cs.map chD)
/-- a line that may be ordered -/
structure LineT.Ok (t : LineT) : Prop where
  n0 : 1 ≤ t.pieces
  n1 : t.pieces ≤ 1000000
  c0 : 0 ≤ t.cents
  c1 : t.cents ≤ 1000000000
  p0 : 1 ≤ t.pack
  p1 : t.pack ≤ 1000
  i0 : 1 ≤ t.item.length
  i1 : t.item.length ≤ 12
  ia : ∀ c ∈ t.item.cps.toList, 97 ≤ c ∧ c ≤ 122
def Deed.LinesOk : Deed → Prop
  | .ord ls => 1 ≤ ls.length ∧ ls.length ≤ 20 ∧ ∀ t ∈ ls, t.Ok
  | _ => True
theorem LineT.Ok.str {t : LineT} (h : t.Ok) : PyData.strOk t.item = true := by
  unfold PyData.strOk
  rw [Array.all_eq_true']
  intro c hc
  have := h.ia c (by simpa using hc)
  exact decide_eq_true (by omega)
theorem LineT.Ok.ln {t : LineT} (h : t.Ok) : t.new.Ok := ⟨h.c0, h.c1, h.p0, h.p1, h.str⟩
/-! ### the accounts in the heap -/
def LnV (l : Ln) : List V := [.str l.item, .int l.pieces, .int l.cents, .int l.pack, .int l.sent, .int l.home, .int l.again, .int l.credited]
structure OA where
  a : Addr
  ls : Addr
  rs : Addr
  lns : List Addr
inductive Role where
  | top | hd (k : Nat) | ls (k : Nat) | rs (k : Nat) | ln (k j : Nat) | non
structure OdAt (K : PySem.W.Frag) (H F : Hp) (o : OA) (m : Od) : Prop where
  hd : H o.a = some (.lst [.ref o.ls, .int m.paid, .ref o.rs])
  hl : H o.ls = some (.lst (o.lns.map V.ref))
  len : o.lns.length = m.lines.length
  ln : ∀ (i : Nat) x l, o.lns[i]? = some x → m.lines[i]? = some l → H x = some (.lst (LnV l))
  hr : ∃ ts, H o.rs = some (.lst ts) ∧ DpAll K F ts (m.rows.map rowD)
structure Acc (K : PySem.W.Frag) (fp own : Addr → Prop) (H : Hp) (p : Addr) (os : List OA) (M : List Od) : Prop where
  top : H p = some (.lst (os.map fun o => V.ref o.a))
  len : os.length = M.length
  od : ∀ (k : Nat) o m, os[k]? = some o → M[k]? = some m → OdAt K H (off fp H) o m
  role : ∃ r : Addr → Role, r p = .top ∧ ∀ (k : Nat) o, os[k]? = some o → r o.a = .hd k ∧ r o.ls = .ls k ∧ r o.rs = .rs k ∧ ∀ (j : Nat) x, o.lns[j]? = some x → r x = .ln k j
  ow : own p ∧ ∀ o ∈ os, own o.a ∧ own o.ls ∧ own o.rs ∧ ∀ x ∈ o.lns, own x
  sub : ∀ a, own a → fp a
section
variable {K : PySem.W.Frag} {fp fp' own : Addr → Prop} {H H' : Hp} {p : Addr} {os : List OA} {M : List Od}
/-- what does not touch the accounts leaves them -/
theorem Acc.frame (A : Acc K fp own H p os M) (h : ∀ a o, own a → H a = some o → H' a = some o) (s : Same (off fp H) (off fp' H')) (sub : ∀ a, own a → fp' a) : Acc K fp' own H' p os M := by
  refine ⟨h _ _ A.ow.1 A.top, A.len, fun k o m ho hm => ?_, A.role, A.ow, sub⟩
  obtain ⟨h1, h2, h3, h4⟩ := A.ow.2 o (List.mem_of_getElem? ho)
  have O := A.od k o m ho hm
  obtain ⟨ts, r1, r2⟩ := O.hr
  exact ⟨h _ _ h1 O.hd, h _ _ h2 O.hl, O.len, fun i x l hx hl => h _ _ (h4 x (List.mem_of_getElem? hx)) (O.ln i x l hx hl), ts, h _ _ h3 r1, r2.same s⟩
theorem Acc.same (A : Acc K fp own H p os M) (s : Same H H') : Acc K fp own H' p os M := A.frame (fun a o _ h => s a o h) (off_mono s) A.sub
theorem Acc.get (A : Acc K fp own H p os M) {k : Nat} (h : k < M.length) : ∃ o, os[k]? = some o ∧ OdAt K H (off fp H) o M[k] := by
  have h' : k < os.length := by rw [A.len]; exact h
  exact ⟨os[k], List.getElem?_eq_getElem h', A.od k _ _ (List.getElem?_eq_getElem h') (List.getElem?_eq_getElem h)⟩
/-- an order's line changes -/
theorem Acc.setLine (A : Acc K fp own H p os M) {k j : Nat} {o : OA} {x : Addr} {m : Od} {l : Ln} (ho : os[k]? = some o) (hm : M[k]? = some m) (hx : o.lns[j]? = some x) : Acc K fp own (upd H x (.lst (LnV l))) p os (M.set k (setLine m j l)) := by
  obtain ⟨r, r0, rk⟩ := A.role
  obtain ⟨a1, a2, a3, a4⟩ := A.ow.2 o (List.mem_of_getElem? ho)
  have rx := (rk k o ho).2.2.2 j x hx
  have ox := a4 x (List.mem_of_getElem? hx)
  have eo : off fp (upd H x (.lst (LnV l))) = off fp H := off_upd (A.sub _ ox)
  have ne : ∀ {y : Addr} {q : Role}, r y = q → q ≠ .ln k j → y ≠ x := fun h1 h2 e => h2 (by rw [← h1, e, rx])
  refine ⟨by rw [upd_ne (ne r0 (by intro z; cases z))]; exact A.top, by rw [List.length_set]; exact A.len, fun k' o' m' ho' hm' => ?_, A.role, A.ow, A.sub⟩
  obtain ⟨q1, q2, q3, q4⟩ := rk k' o' ho'
  have hk' : k' < M.length := by rw [← A.len]; exact (List.getElem?_eq_some_iff.mp ho').1
  rw [eo]
  by_cases e : k = k'
  · subst e
    rw [ho] at ho'; cases ho'
    rw [List.getElem?_set_self hk'] at hm'; cases hm'
    have O := A.od k o m ho hm
    obtain ⟨ts, t1, t2⟩ := O.hr
    refine ⟨by rw [upd_ne (ne q1 (by intro z; cases z))]; exact O.hd, by rw [upd_ne (ne q2 (by intro z; cases z))]; exact O.hl, by
      rw [O.len]; exact (List.length_set ..).symm, fun i y l' hy hl' => ?_, ts, by rw [upd_ne (ne q3 (by intro z; cases z))]; exact t1, t2⟩
    have hl' : (m.lines.set j l)[i]? = some l' := hl'
    by_cases ei : j = i
    · subst ei
      rw [hx] at hy; cases hy
      have hj : j < m.lines.length := by rw [← O.len]; exact (List.getElem?_eq_some_iff.mp hx).1
      rw [List.getElem?_set_self hj] at hl'; cases hl'
      exact upd_same
    · rw [List.getElem?_set_ne ei] at hl'
      rw [upd_ne (ne (q4 i y hy) (by intro z; cases z; exact ei rfl))]
      exact O.ln i y l' hy hl'
  · rw [List.getElem?_set_ne e] at hm'
    have O := A.od k' o' m' ho' hm'
    obtain ⟨ts, t1, t2⟩ := O.hr
    exact ⟨by rw [upd_ne (ne q1 (by intro z; cases z))]; exact O.hd, by rw [upd_ne (ne q2 (by intro z; cases z))]; exact O.hl, O.len, fun i y l' hy hl' => by
      rw [upd_ne (ne (q4 i y hy) (by intro z; cases z; exact e rfl))]; exact O.ln i y l' hy hl', ts, by rw [upd_ne (ne q3 (by intro z; cases z))]; exact t1, t2⟩
/-- what is paid for an order changes -/
theorem Acc.setPaid (A : Acc K fp own H p os M) {k : Nat} {o : OA} {m : Od} {n : Int} (ho : os[k]? = some o) (hm : M[k]? = some m) : Acc K fp own (upd H o.a (.lst [.ref o.ls, .int n, .ref o.rs])) p os (M.set k { m with paid := n }) := by
  obtain ⟨r, r0, rk⟩ := A.role
  obtain ⟨a1, a2, a3, a4⟩ := A.ow.2 o (List.mem_of_getElem? ho)
  have rx := (rk k o ho).1
  have eo : off fp (upd H o.a (.lst [.ref o.ls, .int n, .ref o.rs])) = off fp H := off_upd (A.sub _ a1)
  have ne : ∀ {y : Addr} {q : Role}, r y = q → q ≠ .hd k → y ≠ o.a := fun h1 h2 e => h2 (by rw [← h1, e, rx])
  refine ⟨by rw [upd_ne (ne r0 (by intro z; cases z))]; exact A.top, by rw [List.length_set]; exact A.len, fun k' o' m' ho' hm' => ?_, A.role, A.ow, A.sub⟩
  obtain ⟨q1, q2, q3, q4⟩ := rk k' o' ho'
  have hk' : k' < M.length := by rw [← A.len]; exact (List.getElem?_eq_some_iff.mp ho').1
  rw [eo]
  by_cases e : k = k'
  · subst e
    rw [ho] at ho'; cases ho'
    rw [List.getElem?_set_self hk'] at hm'; cases hm'
    have O := A.od k o m ho hm
    obtain ⟨ts, t1, t2⟩ := O.hr
    exact ⟨upd_same, by rw [upd_ne (ne q2 (by intro z; cases z))]; exact O.hl, O.len, fun i y l' hy hl' => by
      rw [upd_ne (ne (q4 i y hy) (by intro z; cases z))]; exact O.ln i y l' hy hl', ts, by rw [upd_ne (ne q3 (by intro z; cases z))]; exact t1, t2⟩
  · rw [List.getElem?_set_ne e] at hm'
    have O := A.od k' o' m' ho' hm'
    obtain ⟨ts, t1, t2⟩ := O.hr
    exact ⟨by rw [upd_ne (ne q1 (by intro z; cases z; exact e rfl))]; exact O.hd, by rw [upd_ne (ne q2 (by intro z; cases z))]; exact O.hl, O.len, fun i y l' hy hl' => by
      rw [upd_ne (ne (q4 i y hy) (by intro z; cases z))]; exact O.ln i y l' hy hl', ts, by rw [upd_ne (ne q3 (by intro z; cases z))]; exact t1, t2⟩
/-- a row more -/
theorem Acc.addRow (A : Acc K fp own H p os M) {k : Nat} {o : OA} {m : Od} {ts : List V} {t : V} {w : Str} {c : Int} (ho : os[k]? = some o) (hm : M[k]? = some m) (ht : H o.rs = some (.lst ts)) (hd : DpAll K (off fp H) ts (m.rows.map rowD)) (h1 : Dp K (off fp H) t (rowD (w, c))) :
    Acc K fp own (upd H o.rs (.lst (ts ++ [t]))) p os (M.set k (addRow m w c)) := by
  obtain ⟨r, r0, rk⟩ := A.role
  obtain ⟨a1, a2, a3, a4⟩ := A.ow.2 o (List.mem_of_getElem? ho)
  have rx := (rk k o ho).2.2.1
  have eo : off fp (upd H o.rs (.lst (ts ++ [t]))) = off fp H := off_upd (A.sub _ a3)
  have ne : ∀ {y : Addr} {q : Role}, r y = q → q ≠ .rs k → y ≠ o.rs := fun h1 h2 e => h2 (by rw [← h1, e, rx])
  refine ⟨by rw [upd_ne (ne r0 (by intro z; cases z))]; exact A.top, by rw [List.length_set]; exact A.len, fun k' o' m' ho' hm' => ?_, A.role, A.ow, A.sub⟩
  obtain ⟨q1, q2, q3, q4⟩ := rk k' o' ho'
  have hk' : k' < M.length := by rw [← A.len]; exact (List.getElem?_eq_some_iff.mp ho').1
  rw [eo]
  by_cases e : k = k'
  · subst e
    rw [ho] at ho'; cases ho'
    rw [List.getElem?_set_self hk'] at hm'; cases hm'
    have O := A.od k o m ho hm
    refine ⟨by rw [upd_ne (ne q1 (by intro z; cases z))]; exact O.hd, by rw [upd_ne (ne q2 (by intro z; cases z))]; exact O.hl, O.len, fun i y l' hy hl' => by
      rw [upd_ne (ne (q4 i y hy) (by intro z; cases z))]; exact O.ln i y l' hy hl', ts ++ [t], upd_same, ?_⟩
    show DpAll K (off fp H) (ts ++ [t]) ((m.rows ++ [(w, c)]).map rowD)
    rw [List.map_append]
    exact hd.append (.cons h1 .nil)
  · rw [List.getElem?_set_ne e] at hm'
    have O := A.od k' o' m' ho' hm'
    obtain ⟨us, t1, t2⟩ := O.hr
    exact ⟨by rw [upd_ne (ne q1 (by intro z; cases z))]; exact O.hd, by rw [upd_ne (ne q2 (by intro z; cases z))]; exact O.hl, O.len, fun i y l' hy hl' => by
      rw [upd_ne (ne (q4 i y hy) (by intro z; cases z))]; exact O.ln i y l' hy hl', us, by rw [upd_ne (ne q3 (by intro z; cases z; exact e rfl))]; exact t1, t2⟩
/-- an order more, its parts new -/
theorem Acc.addOd (A : Acc K fp own H p os M) {o : OA} {m : Od} (O : OdAt K H (off fp H) o m) (hsub : ∀ x ∈ o.a :: o.ls :: o.rs :: o.lns, ¬ own x ∧ fp x) (hnd : (o.a :: o.ls :: o.rs :: o.lns).Nodup) :
    Acc K fp (fun x => own x ∨ x ∈ o.a :: o.ls :: o.rs :: o.lns) (upd H p (.lst ((os.map fun o => V.ref o.a) ++ [.ref o.a]))) p (os ++ [o]) (M ++ [m]) := by
  classical
  obtain ⟨r, r0, rk⟩ := A.role
  have eo : off fp (upd H p (.lst ((os.map fun o => V.ref o.a) ++ [.ref o.a]))) = off fp H := off_upd (A.sub _ A.ow.1)
  have np : ∀ x, x ∈ o.a :: o.ls :: o.rs :: o.lns → x ≠ p := fun x hx e => (hsub x hx).1 (by rw [e]; exact A.ow.1)
  have nq : ∀ (k : Nat) o', os[k]? = some o' → o'.a ≠ p ∧ o'.ls ≠ p ∧ o'.rs ≠ p ∧ ∀ x ∈ o'.lns, x ≠ p := fun k o' h => by
    obtain ⟨q1, q2, q3, q4⟩ := rk k o' h
    refine ⟨fun e => ?_, fun e => ?_, fun e => ?_, fun x hx e => ?_⟩
    · rw [e, r0] at q1; cases q1
    · rw [e, r0] at q2; cases q2
    · rw [e, r0] at q3; cases q3
    · obtain ⟨j, hj⟩ := List.getElem?_of_mem hx
      have := q4 j x hj
      rw [e, r0] at this; cases this
  refine ⟨by rw [upd_same, List.map_append]; rfl, by rw [List.length_append, List.length_append, A.len]; rfl, fun k o' m' ho' hm' => ?_, ?_, ⟨.inl A.ow.1, fun o' ho' => ?_⟩, fun a ha => ?_⟩
  · rw [eo]
    rcases Nat.lt_or_ge k os.length with hk | hk
    · rw [List.getElem?_append_left hk] at ho'
      rw [List.getElem?_append_left (by rw [← A.len]; exact hk)] at hm'
      have O' := A.od k o' m' ho' hm'
      obtain ⟨n1, n2, n3, n4⟩ := nq k o' ho'
      obtain ⟨us, t1, t2⟩ := O'.hr
      exact ⟨by rw [upd_ne n1]; exact O'.hd, by rw [upd_ne n2]; exact O'.hl, O'.len, fun i y l' hy hl' => by rw [upd_ne (n4 y (List.mem_of_getElem? hy))]; exact O'.ln i y l' hy hl', us, by rw [upd_ne n3]; exact t1, t2⟩
    · rw [List.getElem?_append_right hk] at ho'
      rw [List.getElem?_append_right (by rw [← A.len]; exact hk)] at hm'
      have hk0 : k - os.length = 0 := by
        have := (List.getElem?_eq_some_iff.mp ho').1
        simp only [List.length_cons, List.length_nil] at this
        omega
      have hk1 : k - M.length = 0 := by rw [← A.len]; exact hk0
      rw [hk0] at ho'
      rw [hk1] at hm'
      cases ho'
      cases hm'
      obtain ⟨us, t1, t2⟩ := O.hr
      exact ⟨by rw [upd_ne (np _ (by simp))]; exact O.hd, by rw [upd_ne (np _ (by simp))]; exact O.hl, O.len, fun i y l' hy hl' => by
        rw [upd_ne (np _ (by simp [List.mem_of_getElem? hy]))]; exact O.ln i y l' hy hl', us, by rw [upd_ne (np _ (by simp))]; exact t1, t2⟩
  · simp only [List.nodup_cons, List.mem_cons, not_or] at hnd
    obtain ⟨⟨d1, d2, d3⟩, ⟨d4, d5⟩, d6, d7⟩ := hnd
    refine ⟨fun x => if x = o.a then .hd os.length else if x = o.ls then .ls os.length else if x = o.rs then .rs os.length else if x ∈ o.lns then .ln os.length (o.lns.idxOf x) else r x, ?_, fun k o' ho' => ?_⟩
    · have e1 : ¬ p = o.a := fun e => np o.a (by simp) e.symm
      have e2 : ¬ p = o.ls := fun e => np o.ls (by simp) e.symm
      have e3 : ¬ p = o.rs := fun e => np o.rs (by simp) e.symm
      have e4 : ¬ p ∈ o.lns := fun e => np p (by simp [e]) rfl
      dsimp only
      rw [if_neg e1, if_neg e2, if_neg e3, if_neg e4]
      exact r0
    · rcases Nat.lt_or_ge k os.length with hk | hk
      · rw [List.getElem?_append_left hk] at ho'
        obtain ⟨q1, q2, q3, q4⟩ := rk k o' ho'
        obtain ⟨w1, w2, w3, w4⟩ := A.ow.2 o' (List.mem_of_getElem? ho')
        have no : ∀ x, own x → x ≠ o.a ∧ x ≠ o.ls ∧ x ≠ o.rs ∧ x ∉ o.lns := fun x hx => ⟨fun e => (hsub o.a (by simp)).1 (e ▸ hx), fun e => (hsub o.ls (by simp)).1 (e ▸ hx), fun e => (hsub o.rs (by simp)).1 (e ▸ hx), fun e => (hsub x (by simp [e])).1 hx⟩
        have go : ∀ x, own x → (if x = o.a then Role.hd os.length else if x = o.ls then .ls os.length else if x = o.rs then .rs os.length else if x ∈ o.lns then .ln os.length (o.lns.idxOf x) else r x) = r x := fun x hx => by
          obtain ⟨n1, n2, n3, n4⟩ := no x hx
          rw [if_neg n1, if_neg n2, if_neg n3, if_neg n4]
        exact ⟨(go _ w1).trans q1, (go _ w2).trans q2, (go _ w3).trans q3, fun j x hx => (go _ (w4 x (List.mem_of_getElem? hx))).trans (q4 j x hx)⟩
      · rw [List.getElem?_append_right hk] at ho'
        have hk0 : k - os.length = 0 := by
          have := (List.getElem?_eq_some_iff.mp ho').1
          simp only [List.length_cons, List.length_nil] at this
          omega
        have hk2 : k = os.length := by omega
        rw [hk0] at ho'
        cases ho'
        subst hk2
        refine ⟨if_pos rfl, by dsimp only; rw [if_neg (Ne.symm d1), if_pos rfl], by dsimp only; rw [if_neg (Ne.symm d2), if_neg (Ne.symm d4), if_pos rfl], fun j x hx => ?_⟩
        have hm := List.mem_of_getElem? hx
        have e1 : ¬ x = o.a := fun e => d3 (e ▸ hm)
        have e2 : ¬ x = o.ls := fun e => d5 (e ▸ hm)
        have e3 : ¬ x = o.rs := fun e => d6 (e ▸ hm)
        dsimp only
        rw [if_neg e1, if_neg e2, if_neg e3, if_pos hm]
        congr 1
        obtain ⟨hj, ej⟩ := List.getElem?_eq_some_iff.mp hx
        rw [← ej]
        exact List.Nodup.idxOf_getElem d7 j hj
  · rcases List.mem_append.mp ho' with h | h
    · obtain ⟨w1, w2, w3, w4⟩ := A.ow.2 o' h
      exact ⟨.inl w1, .inl w2, .inl w3, fun x hx => .inl (w4 x hx)⟩
    · rw [List.mem_singleton] at h
      subst h
      exact ⟨.inr (by simp), .inr (by simp), .inr (by simp), fun x hx => .inr (by simp [hx])⟩
  · rcases ha with h | h
    · exact A.sub a h
    · exact (hsub a h).2
/-- the accounts as data -/
theorem OdAt.dp {F : Hp} {o : OA} {m : Od} (O : OdAt K H F o m) (s : Same F H) : Dp K H (.ref o.a) (odD m) := by
  obtain ⟨ts, r1, r2⟩ := O.hr
  refine .lst (SqL.of O.hd) (.cons (.lst (SqL.of O.hl) ?_) (.cons (.int _) (.cons (.lst (SqL.of r1) (r2.same s)) .nil)))
  have go : ∀ (xs : List Addr) (ls : List Ln), xs.length = ls.length → (∀ (i : Nat) x l, xs[i]? = some x → ls[i]? = some l → H x = some (.lst (LnV l))) → DpAll K H (xs.map V.ref) (ls.map lnD) := by
    intro xs
    induction xs with
    | nil => intro ls h _; cases ls with
      | nil => exact .nil
      | cons l r => simp at h
    | cons x r ih => intro ls h hx; cases ls with
      | nil => simp at h
      | cons l ls =>
        refine .cons (.lst (SqL.of (hx 0 x l rfl rfl)) ?_) (ih ls (by simpa using h) fun i y k h1 h2 => hx (i + 1) y k h1 h2)
        exact .cons (.str _) (.cons (.int _) (.cons (.int _) (.cons (.int _) (.cons (.int _) (.cons (.int _) (.cons (.int _) (.cons (.int _) .nil)))))))
  exact go _ _ O.len O.ln
theorem Acc.dp (A : Acc K fp own H p os M) : Dp K H (.ref p) (.list (M.map odD)) := by
  refine .lst (SqL.of A.top) ?_
  have go : ∀ (os : List OA) (M : List Od), os.length = M.length → (∀ (k : Nat) o m, os[k]? = some o → M[k]? = some m → OdAt K H (off fp H) o m) → DpAll K H (os.map fun o => V.ref o.a) (M.map odD) := by
    intro os
    induction os with
    | nil => intro M h _; cases M with
      | nil => exact .nil
      | cons m r => simp at h
    | cons o r ih => intro M h hx; cases M with
      | nil => simp at h
      | cons m M => exact .cons ((hx 0 o m rfl rfl).dp off_same) (ih M (by simpa using h) fun k o m h1 h2 => hx (k + 1) o m h1 h2)
  exact go _ _ A.len A.od
end
end Of

set_option Elab.async false
set_option linter.all false
set_option maxRecDepth 100000
set_option maxHeartbeats 4000000
/-! Texts: what is glued of single signs. -/
namespace Of
open PySem PyProof.Rows L2
theorem str_ext {x y : Str} (h : x.cps.toList = y.cps.toList) : x = y := by
  obtain ⟨a⟩ := x
  obtain ⟨b⟩ := y
  simp only at h
  rw [Array.toList_inj.mp h]
theorem cps_app (x y : Str) : (x ++ y).cps.toList = x.cps.toList ++ y.cps.toList := by
  show (x.cps ++ y.cps).toList = _
  exact Array.toList_append
theorem len_cps (x : Str) : x.length = x.cps.toList.length := by
  show x.cps.size = _
  exact Array.length_toList.symm
/-- a text of signs -/
def ofL (cs : List Nat) : Str := ⟨cs.toArray⟩
theorem ofL_cps (cs : List Nat) : (ofL cs).cps.toList = cs := rfl
theorem ofL_len (cs : List Nat) : (ofL cs).length = cs.length := by rw [len_cps]; rfl
theorem ofL_of (x : Str) : ofL x.cps.toList = x := str_ext rfl
theorem join_cons2 (sep x y : Str) (r : List Str) : (Txt.join sep (x :: y :: r)).cps.toList = x.cps.toList ++ sep.cps.toList ++ (Txt.join sep (y :: r)).cps.toList := by
  show (Builtin.Str.glued sep (x :: y :: r)).cps.toList = _ ++ (Builtin.Str.glued sep (y :: r)).cps.toList
  rw [StrLaws.glued_eq_join, StrLaws.glued_eq_join]
  show (x ++ sep ++ Str.join sep (y :: r)).cps.toList = _
  rw [cps_app, cps_app]
theorem join_one (sep x : Str) : Txt.join sep [x] = x := by
  show Builtin.Str.glued sep [x] = x
  rw [StrLaws.glued_eq_join]
  rfl
theorem join_nil (sep : Str) : Txt.join sep [] = ⟨#[]⟩ := by
  show Builtin.Str.glued sep [] = _
  rw [StrLaws.glued_eq_join]
  rfl
theorem join_signs {sep : Str} (hs : sep.cps.toList = []) : ∀ cs : List Nat, Txt.join sep (cs.map fun c => (⟨#[c]⟩ : Str)) = ofL cs
  | [] => join_nil sep
  | [c] => join_one sep _
  | c :: d :: r => str_ext (by
    have ih := join_signs hs (d :: r)
    rw [List.map_cons, List.map_cons, join_cons2, hs, ← List.map_cons (f := fun c => (⟨#[c]⟩ : Str)), ih]
    rfl)
theorem empty_cps : (("" : Str)).cps.toList = [] := by decide +kernel
theorem alpha_at : ∀ k : Nat, k < 26 → (("abcdefghijklmnopqrstuvwxyz" : Str)).cps.toList[k]? = some (97 + k) := by decide +kernel
theorem alpha_len : (("abcdefghijklmnopqrstuvwxyz" : Str)).length ≤ sizeLine := Nat.le_trans (by decide +kernel : _ ≤ 100) (by decide)
theorem alpha_mod (i : Int) : atI (("abcdefghijklmnopqrstuvwxyz" : Str)).cps.toList (i % 26) = some (97 + (i % 26).toNat) := by
  have h0 := Int.emod_nonneg i (show (26 : Int) ≠ 0 by decide)
  have h1 := Int.emod_lt_of_pos i (show (0 : Int) < 26 by decide)
  have h2 := alpha_at (i % 26).toNat (by omega)
  exact (congrArg (atI _) (Int.toNat_of_nonneg h0).symm).trans (atI_nat h2)
/-- a text of letters -/
structure IsItem (z : Str) : Prop where
  i0 : 1 ≤ z.length
  i1 : z.length ≤ 12
  ia : ∀ c ∈ z.cps.toList, 97 ≤ c ∧ c ≤ 122
theorem isItem_of {cs : List Nat} (h0 : 1 ≤ cs.length) (h1 : cs.length ≤ 12) (ha : ∀ c ∈ cs, 97 ≤ c ∧ c ≤ 122) : IsItem (ofL cs) :=
  ⟨by rw [ofL_len]; exact h0, by rw [ofL_len]; exact h1, ha⟩
end Of

set_option Elab.async false
set_option linter.all false
set_option maxRecDepth 100000
set_option maxHeartbeats 4000000
/-! A book of the program, told by its promises alone. -/
namespace Of
open PySem PySem.Spec PyProof.Rows L2
/-! ### a method called -/
abbrev bookMs : List Str := ["do", "undo", "orders", "told", "paid", "owed", "rows", "settled", "net"]
/-- an instance of the class at C, none of its attributes a method's name -/
def IsB (C : Addr) (H : Hp) (x : V) : Prop := ∃ a dx fs, x = .ref a ∧ H a = some (.ins C dx fs) ∧ ∀ m ∈ bookMs, fs.lookup m = none
/-- a method of the class at C, with its promise; what is raised is told by L2.CX -/
structure BCal (P : Program) (w : World) (K : PySem.W.Frag) (mg : Str → Option Value) (base : Heap) (k : Nat) (C : Addr) (m : Str) (ps : List Str) (sp : Sp) : Prop where
  cls : Cls K C
  ex : ∃ f fd, Meth K C m f ∧ FnOk P w K mg base (L2.CX P w) k f fd ps sp ∧ Binds K fd ps []
  mem : m ∈ bookMs
def tBk (C : Addr) (sp : Sp) (E : XK) (ta : TE) (t : TA) : TE := fun σ H Q => ta σ H fun x H1 => IsB C H1 x ∧ t σ H1 fun vs H2 => sp (x :: vs) H2 Q E
def tBkS (C : Addr) (sp : Sp) (E : L2.St → XK) (ta : TE) (t : TA) : TE := fun σ H Q => ta σ H fun x H1 => IsB C H1 x ∧ t σ H1 fun vs H2 => sp (x :: vs) H2 Q (E σ)
section
variable {X : Cx} {k : Nat} {C : Addr} {ps : List Str} {sp : Sp} {E : XK} {ES : L2.St → XK} {m : Str} {p pos apos : Pos} {e o : Expr} {es : List Expr} {ta : TE} {t : TA}
theorem pe_bk {pl : Sem Bool} (B : BCal X.prog X.w X.K X.mg X.base k C m ps sp) (he : PE X o ta) (hr : Room k X.A) (ha : PA X (e :: es) t) (hx : Passes (L2.CX X.prog X.w) X E := by exact passL)
    (hst : starEach (e :: es) X.env = (false, eval e X.env) :: starEach es X.env := by rfl) (hpl : (backTo pos (starEach es X.env)).any (·.1) = false := by rfl)
    (ht : eval (.Call (.Attribute o m apos) (e :: es) [] pos) X.env = (do
      let ov ← eval o X.env
      standAt apos.atName
      let (f, first) ← holding [ov] (getMethod ov m pl)
      callWith pos f first (backTo pos (starEach (e :: es) X.env)) (backToKw pos (keywordEach [] X.env))) := by rfl) :
    PE X (.Call (.Attribute o m apos) (e :: es) [] pos) (tBk C sp E ta t) := by
  obtain ⟨f, fd, hm, F, hb⟩ := B.ex
  refine ⟨fun pins s σ H Q I h => ?_⟩
  refine PySem.W.methodCall_KW (pl := pl) (thn (he.run pins s σ H _ I h) fun u s1 ⟨x, H1, I1, rx, ⟨a, dx, fs, ex, ea, l⟩, q⟩ => ?_) ht
  subst ex
  obtain rfl : u = Value.ref a := rx
  refine getmeth_ok I1 ea B.cls hm (l m B.mem) ?_
  refine PySem.W.callWith_K (first := [.ref a]) (h₀ := X.base) I.ok.mod.kin hm.kp (thn (ha.run pos pins s1 σ H1 _ I1 q) fun us s2 ⟨vs, H2, I2, r, q2⟩ => ⟨I2.kIn, ?_⟩) hst hpl
  exact run_fn (us := .ref a :: us) (vs := .ref a :: vs) (dvs := []) F hr hb .nil hx I2 (.cons rfl r) (by rw [List.append_nil]; exact q2)
theorem pe_bk0 {pl : Sem Bool} (B : BCal X.prog X.w X.K X.mg X.base k C m ps sp) (he : PE X o ta) (hr : Room k X.A) (hx : Passes (L2.CX X.prog X.w) X E := by exact passL)
    (ht : eval (.Call (.Attribute o m apos) [] [] pos) X.env = (do
      let ov ← eval o X.env
      standAt apos.atName
      let (f, first) ← holding [ov] (getMethod ov m pl)
      callWith pos f first (backTo pos (starEach [] X.env)) (backToKw pos (keywordEach [] X.env))) := by rfl) :
    PE X (.Call (.Attribute o m apos) [] [] pos) (tBk C sp E ta tNil) := by
  obtain ⟨f, fd, hm, F, hb⟩ := B.ex
  refine ⟨fun pins s σ H Q I h => ?_⟩
  refine PySem.W.methodCall_KW (pl := pl) (thn (he.run pins s σ H _ I h) fun u s1 ⟨x, H1, I1, rx, ⟨a, dx, fs, ex, ea, l⟩, q⟩ => ?_) ht
  subst ex
  obtain rfl : u = Value.ref a := rx
  refine getmeth_ok I1 ea B.cls hm (l m B.mem) ?_
  exact PySem.W.callWith_K0 (first := [.ref a]) I1.kIn hm.kp (run_fn (us := [.ref a]) (vs := [.ref a]) (dvs := []) F hr hb .nil hx I1 (.cons rfl .nil) q)
/-- .. within a try -/
theorem pe_bkS {pl : Sem Bool} (B : BCal X.prog X.w X.K X.mg X.base k C m ps sp) (he : PE X o ta) (hr : Room k X.A) (ha : PA X (e :: es) t) (hx : ∀ σ, PassesAt (L2.CX X.prog X.w) X σ (ES σ))
    (hst : starEach (e :: es) X.env = (false, eval e X.env) :: starEach es X.env := by rfl) (hpl : (backTo pos (starEach es X.env)).any (·.1) = false := by rfl)
    (ht : eval (.Call (.Attribute o m apos) (e :: es) [] pos) X.env = (do
      let ov ← eval o X.env
      standAt apos.atName
      let (f, first) ← holding [ov] (getMethod ov m pl)
      callWith pos f first (backTo pos (starEach (e :: es) X.env)) (backToKw pos (keywordEach [] X.env))) := by rfl) :
    PE X (.Call (.Attribute o m apos) (e :: es) [] pos) (tBkS C sp ES ta t) := by
  obtain ⟨f, fd, hm, F, hb⟩ := B.ex
  refine ⟨fun pins s σ H Q I h => ?_⟩
  refine PySem.W.methodCall_KW (pl := pl) (thn (he.run pins s σ H _ I h) fun u s1 ⟨x, H1, I1, rx, ⟨a, dx, fs, ex, ea, l⟩, q⟩ => ?_) ht
  subst ex
  obtain rfl : u = Value.ref a := rx
  refine getmeth_ok I1 ea B.cls hm (l m B.mem) ?_
  refine PySem.W.callWith_K (first := [.ref a]) (h₀ := X.base) I.ok.mod.kin hm.kp (thn (ha.run pos pins s1 σ H1 _ I1 q) fun us s2 ⟨vs, H2, I2, r, q2⟩ => ⟨I2.kIn, ?_⟩) hst hpl
  exact run_fnS (us := .ref a :: us) (vs := .ref a :: vs) F hr hb (hx σ) I2 (.cons rfl r) q2
theorem pe_bkS0 {pl : Sem Bool} (B : BCal X.prog X.w X.K X.mg X.base k C m ps sp) (he : PE X o ta) (hr : Room k X.A) (hx : ∀ σ, PassesAt (L2.CX X.prog X.w) X σ (ES σ))
    (ht : eval (.Call (.Attribute o m apos) [] [] pos) X.env = (do
      let ov ← eval o X.env
      standAt apos.atName
      let (f, first) ← holding [ov] (getMethod ov m pl)
      callWith pos f first (backTo pos (starEach [] X.env)) (backToKw pos (keywordEach [] X.env))) := by rfl) :
    PE X (.Call (.Attribute o m apos) [] [] pos) (tBkS C sp ES ta tNil) := by
  obtain ⟨f, fd, hm, F, hb⟩ := B.ex
  refine ⟨fun pins s σ H Q I h => ?_⟩
  refine PySem.W.methodCall_KW (pl := pl) (thn (he.run pins s σ H _ I h) fun u s1 ⟨x, H1, I1, rx, ⟨a, dx, fs, ex, ea, l⟩, q⟩ => ?_) ht
  subst ex
  obtain rfl : u = Value.ref a := rx
  refine getmeth_ok I1 ea B.cls hm (l m B.mem) ?_
  exact PySem.W.callWith_K0 (first := [.ref a]) I1.kIn hm.kp (run_fnS (us := [.ref a]) (vs := [.ref a]) F hr hb (hx σ) I1 (.cons rfl .nil) q)
end
/-! ### what stays -/
/-- a tuple -/
def TupO (o : HO) : Prop := ∃ xs, o = .tup xs ∨ ∃ t, o = .frz t (.tup xs)
theorem tupO_lst {zs : List V} (h : TupO (.lst zs)) : False := by
  obtain ⟨xs, h | ⟨t, h⟩⟩ := h <;> cases h
/-- all but what is owned stands, nothing goes, tuples stay what they are, and nothing becomes one -/
def Keep (own : Addr → Prop) (H H' : Hp) : Prop := ∀ a o, H a = some o → (¬ own a → H' a = some o) ∧ ∃ u, H' a = some u ∧ (TupO o ∨ TupO u → u = o)
theorem Keep.refl {own : Addr → Prop} (H : Hp) : Keep own H H := fun _ _ h => ⟨fun _ => h, _, h, fun _ => rfl⟩
theorem tupO_then {o u t : HO} (h1 : TupO o ∨ TupO u → u = o) (h2 : TupO u ∨ TupO t → t = u) : TupO o ∨ TupO t → t = o := fun h => by
  rcases h with h | h
  · have e := h1 (.inl h)
    exact (h2 (.inl (by rw [e]; exact h))).trans e
  · have e := h2 (.inr h)
    exact e.trans (h1 (.inr (by rw [← e]; exact h)))
theorem Keep.trans {own : Addr → Prop} {H H1 H2 : Hp} (a : Keep own H H1) (b : Keep own H1 H2) : Keep own H H2 := fun x o h => by
  obtain ⟨h1, u, h2, h3⟩ := a x o h
  obtain ⟨_, t, h4, h5⟩ := b x u h2
  exact ⟨fun n => (b x o (h1 n)).1 n, t, h4, tupO_then h3 h5⟩
theorem Keep.put {own : Addr → Prop} {H H' : Hp} {x : Addr} {zs : List V} (k : Keep own H H') (h : own x) (hl : ∃ ys, H' x = some (.lst ys)) : Keep own H (upd H' x (.lst zs)) := fun a u e => by
  obtain ⟨h1, t, h2, h3⟩ := k a u e
  refine ⟨fun n => ?_, ?_⟩
  · rw [upd_ne fun z => n (by rw [z]; exact h)]
    exact h1 n
  · by_cases z : a = x
    · rw [z]
      refine ⟨_, upd_same, fun e2 => ?_⟩
      obtain ⟨ys, hl⟩ := hl
      rw [z, hl] at h2
      have et := Option.some.inj h2
      rcases e2 with e2 | e2
      · have e3 := h3 (.inl e2)
        rw [← e3, ← et] at e2
        exact (tupO_lst e2).elim
      · exact (tupO_lst e2).elim
    · rw [upd_ne z]; exact ⟨_, h2, h3⟩
theorem Keep.same {own : Addr → Prop} {H H' : Hp} (s : Same H H') : Keep own H H' := fun a o h => ⟨fun _ => s a o h, _, s a o h, fun _ => rfl⟩
theorem Keep.off {own fp : Addr → Prop} {H H' : Hp} (k : Keep own H H') (h : ∀ a, own a → fp a) : Same (off fp H) (off fp H') := fun a o e => by
  obtain ⟨h1, h2⟩ := off_some e
  rw [off_out h1]
  exact (k a o h2).1 fun z => h1 (h a z)
theorem Keep.has {own fp : Addr → Prop} {H H' : Hp} (k : Keep own H H') (h : Has fp H) : Has fp H' := fun a z e => by
  cases x : H a with
  | none => exact h a z x
  | some u =>
    obtain ⟨_, t, h2, _⟩ := k a u x
    rw [e] at h2
    cases h2
/-- what is owned stands, and is no tuple -/
def Mut (fp : Addr → Prop) (H : Hp) : Prop := ∀ a, fp a → ∃ o, H a = some o ∧ ¬ TupO o
theorem Mut.has {fp : Addr → Prop} {H : Hp} (h : Mut fp H) : Has fp H := fun a z e => by
  obtain ⟨o, h1, _⟩ := h a z
  rw [e] at h1
  cases h1
theorem Keep.mut {own fp : Addr → Prop} {H H' : Hp} (k : Keep own H H') (h : Mut fp H) : Mut fp H' := fun a z => by
  obtain ⟨o, h1, h2⟩ := h a z
  obtain ⟨_, u, h3, h4⟩ := k a o h1
  exact ⟨u, h3, fun e => h2 (by rw [← h4 (.inr e)]; exact e)⟩
theorem Keep.wide {own own' : Addr → Prop} {H H' : Hp} (k : Keep own H H') (h : ∀ a, own a → own' a) : Keep own' H H' := fun a o e => ⟨fun n => (k a o e).1 fun z => n (h a z), (k a o e).2⟩
theorem Keep.tups {own : Addr → Prop} {H H' : Hp} (k : Keep own H H') {a : Addr} {o : HO} (t : TupO o) (h : H a = some o) : H' a = some o := by
  obtain ⟨_, u, h2, h3⟩ := k a _ h
  rw [h2, h3 (.inl t)]
/-- a tuple of texts and ints -/
def FlatT (d : PyData) : Prop := ∃ ps, d = .tuple ps ∧ ps.length ≤ 100 ∧ ∀ p ∈ ps, (∃ z, p = .str z ∧ PyData.strOk z = true) ∨ ∃ i, p = .int i
theorem FlatT.ok {d : PyData} (h : FlatT d) : fl 1 d = true := by
  obtain ⟨ps, rfl, _, h⟩ := h
  show ps.all (fl 0) = true
  rw [List.all_eq_true]
  intro p hp
  rcases h p hp with ⟨z, rfl, hz⟩ | ⟨i, rfl⟩
  · exact hz
  · rfl
/-- such a tuple is none of what may change -/
theorem FlatT.off {K : PySem.W.Frag} {F : Addr → Prop} {G H : Hp} {v : V} {d : PyData} (h : FlatT d) (m : Mut F H) (s : Same G H) (dv : Dp K G v d) : Dp K (off F H) v d := by
  obtain ⟨ps, rfl, hl, h⟩ := h
  clear hl
  obtain ⟨a, xs, rfl, ha, hx⟩ := dp_tuple dv
  refine .tup (xs := xs) ?_ ?_
  · rcases ha with ha | ha
    · have nf : ∀ o, TupO o → G a = some o → ¬ F a := fun o t e z => by
        obtain ⟨u, h1, h2⟩ := m a z
        rw [s a o e] at h1
        rw [← Option.some.inj h1] at h2
        exact h2 t
      rcases ha with e | ⟨t, e⟩
      · exact .inl (.inl (by rw [off_out (nf _ ⟨_, .inl rfl⟩ e)]; exact s _ _ e))
      · exact .inl (.inr ⟨t, by rw [off_out (nf _ ⟨_, .inr ⟨t, rfl⟩⟩ e)]; exact s _ _ e⟩)
    · exact .inr ha
  · clear ha dv
    induction ps generalizing xs with
    | nil => cases hx; exact .nil
    | cons p r ih =>
      cases hx with
      | cons h1 h2 =>
        refine .cons ?_ (ih (fun p hp => h p (.tail _ hp)) _ h2)
        rcases h p (.head _) with ⟨z, rfl, _⟩ | ⟨i, rfl⟩
        · rw [dp_str h1]; exact .str _
        · rw [dp_int h1]; exact .int _
theorem flat_off {K : PySem.W.Frag} {F : Addr → Prop} {G H : Hp} (m : Mut F H) (s : Same G H) : ∀ {xs : List V} {ds : List PyData}, (∀ d ∈ ds, FlatT d) → DpAll K G xs ds → DpAll K (off F H) xs ds
  | _, _, _, .nil => .nil
  | _, _, h, .cons h1 h2 => .cons ((h _ (.head _)).off m s h1) (flat_off m s (fun d hd => h d (.tail _ hd)) h2)
theorem none_back {H H' : Hp} {a : Addr} (e : Same H H') (h : H' a = none) : H a = none := by
  cases x : H a with
  | none => rfl
  | some u => rw [e a u x] at h; cases h
theorem Keep.none {own : Addr → Prop} {H H' : Hp} (k : Keep own H H') {a : Addr} (h : H' a = none) : H a = none := by
  cases x : H a with
  | none => rfl
  | some u =>
    obtain ⟨_, t, h2, _⟩ := k a u x
    rw [h] at h2
    cases h2
/-- what is owned has grown by new ones -/
structure GrowF (fp fp' : Addr → Prop) (H : Hp) : Prop where
  f : ∀ a, fp a → fp' a
  n : ∀ a, fp' a → fp a ∨ H a = none
theorem GrowF.refl {fp : Addr → Prop} {H : Hp} : GrowF fp fp H := ⟨fun _ h => h, fun _ h => .inl h⟩
theorem GrowF.trans {fp fp1 fp2 own : Addr → Prop} {H H1 : Hp} (a : GrowF fp fp1 H) (b : GrowF fp1 fp2 H1) (k : Keep own H H1) : GrowF fp fp2 H :=
  ⟨fun x h => b.f x (a.f x h), fun x h => (b.n x h).elim (a.n x) fun z => .inr (k.none z)⟩
/-! ### the book's state, and its refusals -/
structure BS where
  M : List Od
  past : List (Deed × List Od)
def BS.did (S : BS) (d : Deed) : BS := ⟨stepM S.M d, (d, S.M) :: S.past⟩
def itemOk (z : Str) : Bool := decide (1 ≤ z.length) && decide (z.length ≤ 12) && z.cps.toList.all fun c => decide (97 ≤ c) && decide (c ≤ 122)
def numsOk (t : LineT) : Bool := decide (1 ≤ t.pieces) && decide (t.pieces ≤ 1000000) && decide (0 ≤ t.cents) && decide (t.cents ≤ 1000000000) && decide (1 ≤ t.pack) && decide (t.pack ≤ 1000)
def firstBad : List LineT → Str
  | [] => ""
  | t :: ts => if itemOk t.item = false then "NoItem" else if numsOk t = false then "NoNumber" else firstBad ts
/-- the class that refuses a deed of one of the eight shapes, or the empty text -/
def refuseM (M : List Od) : Deed → Str
  | .ord ls => if ls.length = 0 ∨ 20 < ls.length then "NoLines" else if ¬ firstBad ls = "" then firstBad ls else if 40 ≤ M.length then "FullBook" else ""
  | d => refusalM M d
/-- how many parts a deed of the word has -/
def partsOf (w : Str) : Option Nat :=
  if w = "order" then some 2 else if w = "pay" ∨ w = "refund" then some 3
  else if w = "deliver" ∨ w = "back" ∨ w = "swap" ∨ w = "credit" ∨ w = "move" then some 4 else none
/-- a tuple that is no deed -/
def OddD (xs : List PyData) : Prop := xs = [] ∨ ∃ w rest, xs = .str w :: rest ∧ partsOf w ≠ some (rest.length + 1)
/-- texts and lists within what the machine's lines hold -/
def Deed.Small : Deed → Prop
  | .ord ls => ls.length ≤ 1000 ∧ ∀ t ∈ ls, t.item.length ≤ 1000 ∧ PyData.strOk t.item = true
  | _ => True
def toldD (l : Ln) : PyData := .tuple [.str l.item, .int l.pieces, .int l.sent, .int l.home, .int l.again, .int l.credited]
/-! ### the promises of a book -/
/-- how a book's state lies in the heap: fp all that it owns -/
structure BRep where
  Rep : (Addr → Prop) → Hp → Addr → BS → Prop
  C : Addr
  mt : ∀ {fp H b S}, Rep fp H b S → Mut fp H
  at_ : ∀ {fp H b S}, Rep fp H b S → fp b
  ins : ∀ {fp H b S}, Rep fp H b S → IsB C H (.ref b)
  stays : ∀ {fp H b S H'}, Rep fp H b S → (∀ a o, fp a → H a = some o → H' a = some o) → (∀ a o, TupO o → H a = some o → H' a = some o) → Rep fp H' b S
theorem BRep.has (R : BRep) {fp : Addr → Prop} {H : Hp} {b : Addr} {S : BS} (r : R.Rep fp H b S) : Has fp H := (R.mt r).has
section
variable (R : BRep) (K : PySem.W.Frag) (cl : Str → Addr)
/-- a new list of data -/
def BRep.Lst (fp : Addr → Prop) (H : Hp) (b : Addr) (S' : BS) (ds : List PyData) (Q : VK) : Prop :=
  ∀ H' fp' q xs, GrowF fp fp' H → Keep fp H H' → R.Rep fp' H' b S' → H q = none → ¬ fp' q → H' q = some (.lst xs) → DpAll K (off (And1 fp' q) H') xs ds → Q (.ref q) H'
/-- a value -/
def BRep.Val (fp : Addr → Prop) (H : Hp) (b : Addr) (S' : BS) (v : V) (Q : VK) : Prop := ∀ H' fp', GrowF fp fp' H → Keep fp H H' → R.Rep fp' H' b S' → Q v H'
/-- refused: the book is as it was -/
def BRep.Ref (fp : Addr → Prop) (H : Hp) (b : Addr) (S : BS) (c : Str) (E : XK) : Prop := ∀ H' fp', GrowF fp fp' H → Keep fp H H' → R.Rep fp' H' b S → E (.ref (cl c)) none H'
theorem BRep.Ref.imp {R : BRep} {cl : Str → Addr} {fp : Addr → Prop} {H : Hp} {b : Addr} {S : BS} {c : Str} {E E' : XK} (h : R.Ref cl fp H b S c E) (i : ∀ c d H', E c d H' → E' c d H') : R.Ref cl fp H b S c E' := fun H' fp' g k r => i _ _ _ (h H' fp' g k r)
def sp_do : Sp := fun vs H Q E => ∃ fp b S v, vs = [.ref b, v] ∧ R.Rep fp H b S ∧ S.past.length ≤ 5000 ∧
  ((∃ d : Deed, Dp K (off fp H) v (deedD d) ∧ d.Shape ∧ d.Small ∧ (refuseM S.M d = "" → R.Lst K fp H b (S.did d) ((changesM S.M d).map chD) Q) ∧ (refuseM S.M d ≠ "" → R.Ref cl fp H b S (refuseM S.M d) E)) ∨
   (∃ xs, Dp K (off fp H) v (.tuple xs) ∧ SeqAt.shaped (.tuple xs) = true ∧ xs.length ≤ 1000 ∧ OddD xs ∧ R.Ref cl fp H b S "NoDeed" E))
def sp_orders : Sp := fun vs H Q _ => ∃ fp b S, vs = [.ref b] ∧ R.Rep fp H b S ∧ R.Val fp H b S (.int S.M.length) Q
/-- of the order n, a value of it -/
def sp_valOf (g : Od → Int) : Sp := fun vs H Q E => ∃ fp b S n, vs = [.ref b, .int n] ∧ R.Rep fp H b S ∧
  (inR n S.M.length = true → R.Val fp H b S (.int (g (ordAt S.M n))) Q) ∧ (inR n S.M.length = false → R.Ref cl fp H b S "NoOrder" E)
/-- .. a list of it -/
def sp_lstOf (g : Od → List PyData) : Sp := fun vs H Q E => ∃ fp b S n, vs = [.ref b, .int n] ∧ R.Rep fp H b S ∧ S.past.length ≤ 5000 ∧
  (inR n S.M.length = true → R.Lst K fp H b S (g (ordAt S.M n)) Q) ∧ (inR n S.M.length = false → R.Ref cl fp H b S "NoOrder" E)
def sp_told : Sp := sp_lstOf R K cl fun m => m.lines.map toldD
def sp_paid : Sp := sp_valOf R cl Od.paid
def sp_owed : Sp := sp_valOf R cl Od.owed
def sp_rows : Sp := sp_lstOf R K cl fun m => m.rows.map rowD
/-- the last deed taken back: the deed, a list of its lines new -/
def sp_undo : Sp := fun vs H Q E => ∃ fp b S, vs = [.ref b] ∧ R.Rep fp H b S ∧ S.past.length ≤ 5000 ∧
  (∀ d M rest, S.past = (d, M) :: rest → ∀ H' fp' v, GrowF fp fp' H → Keep fp H H' → R.Rep fp' H' b ⟨M, rest⟩ →
    ((∀ ls, d ≠ .ord ls) → Dp K (off fp' H') v (deedD d)) → (∀ ls, d = .ord ls → ∃ t q xs, v = .ref t ∧ ¬ fp' t ∧ H' t = some (.tup [.str "order", .ref q]) ∧ H q = none ∧ ¬ fp' q ∧ H' q = some (.lst xs) ∧ DpAll K (off (And1 fp' q) H') xs (ls.map lineD)) → Q v H') ∧
  (S.past = [] → R.Ref cl fp H b S "NothingDone" E)
/-- a new book -/
def sp_new : Sp := fun vs H Q _ => ∃ b dx, vs = [.ref b] ∧ H b = some (.ins R.C dx []) ∧ H dx = some (.own b) ∧ ∀ H' fp', fp' b → (∀ a, fp' a → a = b ∨ a = dx ∨ H a = none) → Keep (fun a => a = b) H H' → R.Rep fp' H' b ⟨[], []⟩ → Q .non H'
end
/-! ### a book made -/
structure BMk (P : Program) (w : World) (K : PySem.W.Frag) (mg : Str → Option Value) (base : Heap) (k : Nat) (R : BRep) : Prop where
  ex : ∃ f fd ps, Mk K R.C f ∧ FnOk P w K mg base (L2.CX P w) k f fd ps (sp_new R) ∧ Binds K fd ps []
  g : mg "Book" = some (.ref R.C)
def tMkB (R : BRep) : TE := fun _ H Q => ∀ H' b fp, (∀ a, fp a → H a = none) → fp b → Same H H' → R.Rep fp H' b ⟨[], []⟩ → Q (.ref b) H'
theorem pe_mkB {X : Cx} {R : BRep} {k : Nat} {p pos : Pos} (M : BMk X.prog X.w X.K X.mg X.base k R) (hr : Room (k + 1) X.A) (hg : Gl X "Book" := by rfl) : PE X (.Call (.Name "Book" p) [] [] pos) (tMkB R) := by
  obtain ⟨f, fd, ps, mk, F, hb⟩ := M.ex
  refine ⟨fun pins s σ H Q I h => ?_⟩
  refine wpAny_Call_Name_kw (ld_glob I hg M.g ?_ (by decide))
  refine PySem.W.callWith_K0 I.kIn mk.kp (run_make (us := []) (vs := []) (dvs := []) (E := E0) mk F hr hb .nil passL I .nil fun x dx hx hdx ne => ?_)
  refine ⟨x, dx, rfl, upd_same, by rw [upd_ne ne]; exact upd_same, fun H' fp' hb' hn k r => ⟨rfl, h H' x fp' (fun a ha => ?_) hb' (fun a o e => ?_) r⟩⟩
  · rcases hn a ha with e | e | e
    · rw [e]; exact hx
    · rw [e]; exact hdx
    · by_cases e1 : a = x
      · rw [e1]; exact hx
      · by_cases e2 : a = dx
        · rw [e2]; exact hdx
        · rw [upd_ne e1, upd_ne e2] at e
          exact e
  · have n1 : a ≠ x := fun z => by rw [z, hx] at e; cases e
    have n2 : a ≠ dx := fun z => by rw [z, hdx] at e; cases e
    exact (k a o (by rw [upd_ne n1, upd_ne n2]; exact e)).1 n1
/-! ### the classes of the refusals -/
abbrev errNames : List Str := ["NoDeed", "NoLines", "NoItem", "NoNumber", "FullBook", "NoOrder", "SameOrder", "NoLine", "TooMuch"]
structure Errs (K : PySem.W.Frag) (mg : Str → Option Value) (cl : Str → Addr) : Prop where
  g : ∀ n ∈ errNames, mg n = some (.ref (cl n))
  x : ∀ n ∈ errNames, ∀ m ∈ errNames, PySem.W.exmOne K (.ref (cl n)) (.ref (cl m)) = some (decide (n = m))
section
variable {K : PySem.W.Frag} {mg : Str → Option Value} {cl : Str → Addr} {Wout : WX} {D : Ends} {l : List (Value × (Addr → Value → Option Addr → TS))} {ts : Addr → Value → Option Addr → TS} {d : Option Addr} {σ : L2.St} {H : Hp} {n m : Str}
theorem many_yes (E : Errs K mg cl) (hn : n ∈ errNames) (h : ∀ a, ts a (.ref (cl n)) d D σ H) : wMany K Wout D ((.ref (cl n), ts) :: l) (.ref (cl n)) d σ H :=
  ⟨true, by rw [E.x n hn n hn, decide_eq_true rfl], fun _ a _ => h a, fun z => nomatch z⟩
theorem many_no (E : Errs K mg cl) (hn : n ∈ errNames) (hm : m ∈ errNames) (ne : n ≠ m) (h : wMany K Wout D l (.ref (cl n)) d σ H) : wMany K Wout D ((.ref (cl m), ts) :: l) (.ref (cl n)) d σ H :=
  ⟨false, by rw [E.x n hn m hm, decide_eq_false ne], (fun z => nomatch z), fun _ => h⟩
end
end Of

set_option Elab.async false
set_option linter.all false
set_option maxRecDepth 100000
set_option maxHeartbeats 4000000
/-! A book, its plain account, and a list of what was told, side by side. -/
namespace Of
open PySem PyProof.Rows L2
/-- no order has more rows than n -/
def RowsLe (n : Nat) (M : List Od) : Prop := ∀ m ∈ M, m.rows.length ≤ n
theorem Keep.then {T T' : Addr → Prop} {H H1 H2 : Hp} (a : Keep T H H1) (b : Keep T' H1 H2) (h : ∀ x, T' x → T x ∨ H x = Option.none) : Keep T H H2 := fun x o e => by
  obtain ⟨h1, u, h2, h3⟩ := a x o e
  obtain ⟨_, t, h4, h5⟩ := b x u h2
  exact ⟨fun n => (b x o (h1 n)).1 fun z => (h x z).elim n (fun z => by rw [z] at e; cases e), t, h4, tupO_then h3 h5⟩
/-- what has grown, and what may have changed -/
structure Go (F fp own : Addr → Prop) (kl : Addr) (H : Hp) (F' fp' own' : Addr → Prop) (H' : Hp) : Prop where
  gF : GrowF F F' H
  gf : GrowF fp fp' H
  go : GrowF own own' H
  k : Keep (fun a => fp a ∨ own a ∨ a = kl) H H'
theorem Go.refl {F fp own : Addr → Prop} {kl : Addr} {H : Hp} : Go F fp own kl H F fp own H := ⟨.refl, .refl, .refl, .refl H⟩
theorem Go.trans {F fp own F1 fp1 own1 F2 fp2 own2 : Addr → Prop} {kl : Addr} {H H1 H2 : Hp} (a : Go F fp own kl H F1 fp1 own1 H1) (b : Go F1 fp1 own1 kl H1 F2 fp2 own2 H2) : Go F fp own kl H F2 fp2 own2 H2 :=
  ⟨a.gF.trans b.gF a.k, a.gf.trans b.gf a.k, a.go.trans b.go a.k, a.k.then b.k fun x h => by
    rcases h with h | h | h
    · exact (a.gf.n x h).imp .inl id
    · exact (a.go.n x h).imp (fun z => .inr (.inl z)) id
    · exact .inl (.inr (.inr h))⟩
theorem Go.same {F fp own : Addr → Prop} {kl : Addr} {H H' : Hp} (s : Same H H') : Go F fp own kl H F fp own H' := ⟨.refl, .refl, .refl, .same s⟩
/-- a book and its plain account -/
structure Side (R : BRep) (K : PySem.W.Frag) (F fp own : Addr → Prop) (H : Hp) (b : Addr) (S : BS) (p : Addr) (os : List OA) (M : List Od) (N : Nat) : Prop where
  rep : R.Rep fp H b S
  acc : Acc K F own H p os M
  wf : WF M
  rl : RowsLe N M
  ml : M.length ≤ N
  pl : S.past.length ≤ N
  sub : ∀ a, fp a → F a
  dis : ∀ a, fp a → ¬ own a
/-- a pair of lists that say the same -/
def twin (d : PyData) : PyData := .list [d, d]
def dup (ds : List PyData) : List PyData := ds.map twin
/-- what was told, each beside a list that says the same -/
structure KeptAt (K : PySem.W.Frag) (F : Addr → Prop) (H : Hp) (kl : Addr) (ks : List V) (n : Nat) : Prop where
  kF : F kl
  kh : H kl = some (.lst ks)
  kd : ∃ ds, DpAll K (off F H) ks (dup ds) ∧ ∀ d ∈ ds, SeqAt.shaped d = true
  len : ks.length ≤ n
section
variable {R : BRep} {K : PySem.W.Frag} {F fp own F' fp' own' T : Addr → Prop} {H H' : Hp} {b p kl : Addr} {S S' : BS} {os os' : List OA} {M M' : List Od} {N N' n n' : Nat} {ks ks' : List V}
theorem off_keep (k : Keep T H H') (hT : ∀ a, T a → F a) (g : GrowF F F' H) : Same (off F H) (off F' H') := fun a o e => by
  obtain ⟨h1, h2⟩ := off_some e
  rw [off_out fun z => (g.n a z).elim h1 fun z => by rw [z] at h2; cases h2]
  exact (k a o h2).1 fun z => h1 (hT a z)
/-- .. while elsewhere something goes on -/
theorem Side.frame (s : Side R K F fp own H b S p os M N) (k : Keep T H H') (hT : ∀ a, T a → F a) (h1 : ∀ a, T a → ¬ fp a) (h2 : ∀ a, T a → ¬ own a) (g : GrowF F F' H) : Side R K F' fp own H' b S p os M N :=
  ⟨R.stays s.rep (fun a o z e => (k a o e).1 fun t => h1 a t z) fun a o t e => k.tups t e, s.acc.frame (fun a o z e => (k a o e).1 fun t => h2 a t z) (off_keep k hT g) fun a z => g.f a (s.acc.sub a z), s.wf, s.rl, s.ml, s.pl, fun a z => g.f a (s.sub a z), s.dis⟩
theorem KeptAt.frame (s : KeptAt K F H kl ks n) (k : Keep T H H') (hT : ∀ a, T a → F a) (h : ¬ T kl) (g : GrowF F F' H) : KeptAt K F' H' kl ks n := by
  obtain ⟨ds, h1, h2⟩ := s.kd
  exact ⟨g.f _ s.kF, (k _ _ s.kh).1 h, ⟨ds, h1.same (off_keep k hT g), h2⟩, s.len⟩
/-- one of them, with the list of what was told -/
structure Sit (R : BRep) (K : PySem.W.Frag) (F fp own : Addr → Prop) (H : Hp) (b : Addr) (S : BS) (p : Addr) (os : List OA) (M : List Od) (N : Nat) (kl : Addr) (ks : List V) (n : Nat) : Prop where
  s : Side R K F fp own H b S p os M N
  t : KeptAt K F H kl ks n
  mt : Mut F H
  kf : ¬ fp kl
  ko : ¬ own kl
theorem Sit.same (s : Sit R K F fp own H b S p os M N kl ks n) (e : Same H H') : Sit R K F fp own H' b S p os M N kl ks n :=
  ⟨s.s.frame (T := fun _ => False) (.same e) (fun _ z => z.elim) (fun _ z => z.elim) (fun _ z => z.elim) .refl, s.t.frame (T := fun _ => False) (.same e) (fun _ z => z.elim) id .refl, (Keep.same (own := fun _ => False) e).mut s.mt, s.kf, s.ko⟩
/-- the book was asked, or did something -/
theorem Sit.call (s : Sit R K F fp own H b S p os M N kl ks n) (g : GrowF fp fp' H) (k : Keep fp H H') (r : R.Rep fp' H' b S') (hp : S'.past.length ≤ N := by exact Side.pl (Sit.s (by assumption))) : Sit R K (fun a => F a ∨ fp' a) fp' own H' b S' p os M N kl ks n ∧ Go F fp own kl H (fun a => F a ∨ fp' a) fp' own H' := by
  have gF : GrowF F (fun a => F a ∨ fp' a) H := ⟨fun a z => .inl z, fun a z => z.elim .inl fun z => (g.n a z).imp (s.s.sub a) id⟩
  have hk : ¬ fp' kl := fun z => (g.n _ z).elim s.kf fun z => s.mt.has _ s.t.kF z
  refine ⟨⟨⟨r, s.s.acc.frame (fun a o z e => (k a o e).1 fun t => s.s.dis a t z) (off_keep k s.s.sub gF) fun a z => .inl (s.s.acc.sub a z), s.s.wf, s.s.rl, s.s.ml, hp, fun a z => .inr z, fun a z h => (g.n a z).elim (fun z => s.s.dis a z h) fun z => s.mt.has a (s.s.acc.sub a h) z⟩,
    s.t.frame k s.s.sub s.kf gF, fun a z => z.elim (k.mut s.mt a) (R.mt r a), hk, s.ko⟩, ⟨gF, g, .refl, k.wide fun a z => .inl z⟩⟩
theorem Sit.off (s : Sit R K F fp own H b S p os M N kl ks n) (g : Go F fp own kl H F' fp' own' H') : Same (off F H) (off F' H') := off_keep g.k (fun a z => by
  rcases z with z | z | z
  · exact s.s.sub a z
  · exact s.s.acc.sub a z
  · rw [z]; exact s.t.kF) g.gF
theorem dup_append {ds : List PyData} {d : PyData} : dup (ds ++ [d]) = dup ds ++ [twin d] := by
  unfold dup
  rw [List.map_append]
  rfl
/-- what was told is put aside, in a pair with what says the same -/
theorem Sit.tell (s : Sit R K F fp own H b S p os M N kl ks n) {x : V} {d : PyData} (hx : Dp K (Of.off F H) x (twin d)) (sh : SeqAt.shaped d = true) :
    Sit R K F fp own (upd H kl (.lst (ks ++ [x]))) b S p os M N kl (ks ++ [x]) (n + 1) ∧ Go F fp own kl H F fp own (upd H kl (.lst (ks ++ [x]))) := by
  have k : Keep (fun a => a = kl) H (upd H kl (.lst (ks ++ [x]))) := (Keep.refl H).put rfl ⟨ks, s.t.kh⟩
  have eo : Of.off F (upd H kl (.lst (ks ++ [x]))) = Of.off F H := off_upd s.t.kF
  obtain ⟨ds, h1, h2⟩ := s.t.kd
  refine ⟨⟨s.s.frame k (fun a z => by rw [z]; exact s.t.kF) (fun a z => by rw [z]; exact s.kf) (fun a z => by rw [z]; exact s.ko) .refl,
    ⟨s.t.kF, upd_same, ⟨ds ++ [d], by rw [eo, dup_append]; exact h1.append (.cons hx .nil), fun e he => ?_⟩, ?_⟩, k.mut s.mt, s.kf, s.ko⟩, ⟨.refl, .refl, .refl, k.wide fun a z => .inr (.inr z)⟩⟩
  · rcases List.mem_append.mp he with z | z
    · exact h2 e z
    · rw [List.mem_singleton.mp z]; exact sh
  · rw [List.length_append]
    have := s.t.len
    show ks.length + 1 ≤ n + 1
    omega
theorem upd_over {H : Hp} {a q : Addr} {o1 o2 o3 : HO} (h : a ≠ q) : upd (upd (upd H a o1) q o2) a o3 = upd (upd H q o2) a o3 := by
  funext x
  by_cases e : x = a
  · rw [e, upd_same, upd_same]
  · rw [upd_ne e, upd_ne e]
    by_cases e2 : x = q
    · rw [e2, upd_same, upd_same]
    · rw [upd_ne e2, upd_ne e2, upd_ne e]
theorem RowsLe.mono' {n k : Nat} {M : List Od} (W : RowsLe n M) (h : n ≤ k) : RowsLe k M := fun m hm => Nat.le_trans (W m hm) h
theorem Sit.mono (s : Sit R K F fp own H b S p os M N kl ks n) (h : N ≤ N') (h2 : n ≤ n') : Sit R K F fp own H b S p os M N' kl ks n' :=
  ⟨⟨s.s.rep, s.s.acc, s.s.wf, s.s.rl.mono' h, Nat.le_trans s.s.ml h, Nat.le_trans s.s.pl h, s.s.sub, s.s.dis⟩, ⟨s.t.kF, s.t.kh, s.t.kd, Nat.le_trans s.t.len h2⟩, s.mt, s.kf, s.ko⟩
/-- new ones join what is owned -/
structure Grow (fp own fp' own' : Addr → Prop) (H : Hp) : Prop where
  f : ∀ a, fp a → fp' a
  o : ∀ a, own a → own' a
  nf : ∀ a, fp' a → fp a ∨ H a = none
  no : ∀ a, own' a → own a ∨ (H a = none ∧ fp' a)
/-- the account has gone on -/
theorem Sit.acct (s : Sit R K F fp own H b S p os M N kl ks n) (g : Grow F own F' own' H) (m : Mut F' H') (k : Keep own H H') (A : Acc K F' own' H' p os' M') (wf : WF M') (rl : RowsLe N M') (ml : M'.length ≤ N) :
    Sit R K F' fp own' H' b S p os' M' N kl ks n ∧ Go F fp own kl H F' fp own' H' := by
  have gF : GrowF F F' H := ⟨g.f, g.nf⟩
  have nb : ∀ a, fp a → ¬ own' a := fun a z h => (g.no a h).elim (s.s.dis a z) fun q => s.mt.has a (s.s.sub a z) q.1
  refine ⟨⟨⟨R.stays s.s.rep (fun a o z e => (k a o e).1 (s.s.dis a z)) fun a o t e => k.tups t e, A, wf, rl, ml, s.s.pl, fun a z => g.f a (s.s.sub a z), nb⟩, s.t.frame k s.s.acc.sub s.ko gF, m, s.kf, fun z => (g.no _ z).elim s.ko fun q => s.mt.has _ s.t.kF q.1⟩,
    ⟨gF, .refl, ⟨g.o, fun a z => (g.no a z).imp id (·.1)⟩, k.wide fun a z => .inr (.inl z)⟩⟩
/-- the book was asked, or did something; F' names more that is new -/
theorem Sit.call' (s : Sit R K F fp own H b S p os M N kl ks n) (g : GrowF fp fp' H) (k : Keep fp H H') (r : R.Rep fp' H' b S') (hp : S'.past.length ≤ N) (gF : GrowF F F' H) (sub : ∀ a, fp' a → F' a) (m : Mut F' H') :
    Sit R K F' fp' own H' b S' p os M N kl ks n ∧ Go F fp own kl H F' fp' own H' := by
  have hk : ¬ fp' kl := fun z => (g.n _ z).elim s.kf fun z => s.mt.has _ s.t.kF z
  exact ⟨⟨⟨r, s.s.acc.frame (fun a o z e => (k a o e).1 fun t => s.s.dis a t z) (off_keep k s.s.sub gF) fun a z => gF.f a (s.s.acc.sub a z), s.s.wf, s.s.rl, s.s.ml, hp, sub, fun a z h => (g.n a z).elim (fun z => s.s.dis a z h) fun z => s.mt.has a (s.s.acc.sub a h) z⟩,
    s.t.frame k s.s.sub s.kf gF, m, hk, s.ko⟩, ⟨gF, g, .refl, k.wide fun a z => .inl z⟩⟩
/-- fewer are named as what may change -/
theorem Sit.less (s : Sit R K F fp own H b S p os M N kl ks n) (h : ∀ a, F' a → F a) (h1 : ∀ a, fp a → F' a) (h2 : ∀ a, own a → F' a) (h3 : F' kl) : Sit R K F' fp own H b S p os M N kl ks n := by
  have so : Same (Of.off F H) (Of.off F' H) := off_less h
  obtain ⟨ds, d1, d2⟩ := s.t.kd
  exact ⟨⟨s.s.rep, s.s.acc.frame (fun _ _ _ e => e) so h2, s.s.wf, s.s.rl, s.s.ml, s.s.pl, h1, s.s.dis⟩, ⟨h3, s.t.kh, ⟨ds, d1.same so, d2⟩, s.t.len⟩, fun a z => s.mt a (h a z), s.kf, s.ko⟩
theorem Go.less (g : Go F fp own kl H F' fp' own' H') {F'' : Addr → Prop} (h : ∀ a, F'' a → F' a) (h1 : ∀ a, F a → F'' a) : Go F fp own kl H F'' fp' own' H' := ⟨⟨h1, fun a z => g.gF.n a (h a z)⟩, g.gf, g.go, g.k⟩
/-- a new list, named as what may change, changes -/
theorem Sit.put (s : Sit R K F fp own H b S p os M N kl ks n) {q : Addr} {zs : List V} (hF : F q) (h1 : ¬ fp q) (h2 : ¬ own q) (h3 : q ≠ kl) (hl : ∃ ys, H q = some (.lst ys)) : Sit R K F fp own (upd H q (.lst zs)) b S p os M N kl ks n := by
  have k : Keep (fun a => a = q) H (upd H q (.lst zs)) := (Keep.refl H).put rfl hl
  exact ⟨s.s.frame k (fun a z => by rw [z]; exact hF) (fun a z => by rw [z]; exact h1) (fun a z => by rw [z]; exact h2) .refl, s.t.frame k (fun a z => by rw [z]; exact hF) (fun z => h3 z.symm) .refl, k.mut s.mt, s.kf, s.ko⟩
theorem Go.put (g : Go F fp own kl H F' fp' own' H') {q : Addr} {zs : List V} (h : H q = none) (hl : ∃ ys, H' q = some (.lst ys)) : Go F fp own kl H F' fp' own' (upd H' q (.lst zs)) :=
  ⟨g.gF, g.gf, g.go, g.k.then ((Keep.refl H').put (own := fun a => a = q) rfl hl) fun x z => .inr (by rw [z]; exact h)⟩
/-- a list that was told, a copy of it made and both put into a pair, which is put aside -/
theorem Sit.tells (s : Sit R K F fp own H b S p os M N kl ks n) {q q2 t : Addr} {xs : List V} {ds : List PyData} (hq : H q = some (.lst xs)) (nF : ¬ F q) (dx : DpAll K (Of.off F H) xs ds) (sh : SeqAt.shaped (.list ds) = true) (h2 : H q2 = none) (h3 : upd H q2 (.lst xs) t = none) :
    Sit R K F fp own (upd (upd (upd H q2 (.lst xs)) t (.lst [.ref q, .ref q2])) kl (.lst (ks ++ [.ref t]))) b S p os M N kl (ks ++ [.ref t]) (n + 1) ∧
    Go F fp own kl H F fp own (upd (upd (upd H q2 (.lst xs)) t (.lst [.ref q, .ref q2])) kl (.lst (ks ++ [.ref t]))) := by
  have s6 : Same H (upd H q2 (.lst xs)) := same_new h2
  have s7 : Same H (upd (upd H q2 (.lst xs)) t (.lst [.ref q, .ref q2])) := s6.trans (same_new h3)
  have nF2 : ¬ F q2 := fun z => s.mt.has _ z h2
  have nF3 : ¬ F t := fun z => s.mt.has _ z (none_back s6 h3)
  have dx7 := dx.same (off_mono (fp := F) s7)
  have e1 : Of.off F (upd (upd H q2 (.lst xs)) t (.lst [.ref q, .ref q2])) q = some (.lst xs) := by rw [off_out nF]; exact s7 _ _ hq
  have e2 : Of.off F (upd (upd H q2 (.lst xs)) t (.lst [.ref q, .ref q2])) q2 = some (.lst xs) := by rw [off_out nF2]; exact same_new h3 _ _ upd_same
  have e3 : Of.off F (upd (upd H q2 (.lst xs)) t (.lst [.ref q, .ref q2])) t = some (.lst [.ref q, .ref q2]) := by rw [off_out nF3]; exact upd_same
  obtain ⟨a, b⟩ := (s.same s7).tell (x := .ref t) (d := .list ds) (.lst (SqL.of e3) (.cons (.lst (SqL.of e1) dx7) (.cons (.lst (SqL.of e2) dx7) .nil))) sh
  exact ⟨a, (Go.same s7).trans b⟩
end
end Of

set_option Elab.async false
set_option linter.all false
set_option maxRecDepth 100000
set_option maxHeartbeats 4000000
/-! Deeds on the plain account: the lemmas that no law's own text is needed for. -/
namespace Of
open PySem PyProof.Rows L2
abbrev errs9 : List Str := ["NoDeed", "NoLines", "NoItem", "NoNumber", "FullBook", "NoOrder", "SameOrder", "NoLine", "TooMuch"]
section
variable {P : Program} {w : World} {K : PySem.W.Frag} {mg : Str → Option Value} {base : Heap}
/-! ### as many as go; the class that refuses -/
theorem getD_at {α : Type} {l : List α} {d : α} {n : Int} (h0 : 0 ≤ n) (h1 : n < (l.length : Int)) : l[n.toNat]? = some (l.getD n.toNat d) := by
  have h : n.toNat < l.length := by omega
  rw [List.getD_eq_getElem?_getD, List.getElem?_eq_getElem h]
  rfl
theorem Acc.at_ {fp own : Addr → Prop} {H : Hp} {p : Addr} {os : List OA} {M : List Od} (A : Acc K fp own H p os M) {n : Int} (h0 : 0 ≤ n) (h1 : n < (M.length : Int)) :
    ∃ o, os[n.toNat]? = some o ∧ atI (os.map fun o => V.ref o.a) n = some (.ref o.a) ∧ M[n.toNat]? = some (ordAt M n) ∧ OdAt K H (off fp H) o (ordAt M n) := by
  have h : n.toNat < M.length := by omega
  obtain ⟨o, ho, O⟩ := A.get h
  have e : M[n.toNat]? = some (ordAt M n) := getD_at h0 h1
  have e2 : M[n.toNat] = ordAt M n := by
    rw [List.getElem?_eq_getElem h] at e
    exact Option.some.inj e
  rw [e2] at O
  refine ⟨o, ho, ?_, e, O⟩
  refine (congrArg (atI _) (Int.toNat_of_nonneg h0).symm).trans (atI_nat ?_)
  rw [List.getElem?_map, ho]
  rfl
theorem OdAt.at_ {H F : Hp} {o : OA} {m : Od} (O : OdAt K H F o m) {n : Int} (h0 : 0 ≤ n) (h1 : n < (m.lines.length : Int)) :
    ∃ x, o.lns[n.toNat]? = some x ∧ atI (o.lns.map V.ref) n = some (.ref x) ∧ m.lines[n.toNat]? = some (lnAt m n) ∧ H x = some (.lst (LnV (lnAt m n))) := by
  have h : n.toNat < o.lns.length := by rw [O.len]; omega
  have e : m.lines[n.toNat]? = some (lnAt m n) := getD_at h0 h1
  refine ⟨o.lns[n.toNat], List.getElem?_eq_getElem h, ?_, e, O.ln _ _ _ (List.getElem?_eq_getElem h) e⟩
  refine (congrArg (atI _) (Int.toNat_of_nonneg h0).symm).trans (atI_nat ?_)
  rw [List.getElem?_map, List.getElem?_eq_getElem h]
  rfl
theorem WF.at_ {M : List Od} (W : WF M) {n : Int} (h0 : 0 ≤ n) (h1 : n < (M.length : Int)) : (ordAt M n).Ok := W.ok _ (List.mem_of_getElem? (getD_at h0 h1))
theorem Od.Ok.at_ {m : Od} (W : m.Ok) {n : Int} (h0 : 0 ≤ n) (h1 : n < (m.lines.length : Int)) : (lnAt m n).Ok := W.ln _ (List.mem_of_getElem? (getD_at h0 h1))
theorem inR_no {n : Int} {k : Nat} (h : ¬ (0 ≤ n ∧ n < (k : Int))) : inR n k = false := by
  cases e : inR n k with
  | false => rfl
  | true => exact absurd (inR_iff.mp e) h
theorem fl_map {α : Type} {n : Nat} {f : α → PyData} {l : List α} (h : ∀ x ∈ l, fl n (f x) = true) : (l.map f).all (fl n) = true := by
  rw [List.all_eq_true]
  intro d hd
  obtain ⟨x, hx, rfl⟩ := List.mem_map.mp hd
  exact h x hx
theorem fl_ln {l : Ln} (h : PyData.strOk l.item = true) : fl 1 (lnD l) = true := by
  show (_ && _) = true
  rw [Bool.and_eq_true]
  exact ⟨h, rfl⟩
theorem fl_row {r : Str × Int} (h : PyData.strOk r.1 = true) : fl 1 (rowD r) = true := by
  show (_ && _) = true
  rw [Bool.and_eq_true]
  exact ⟨h, rfl⟩
theorem fl_od {m : Od} (h : m.Ok) : fl 3 (odD m) = true := by
  show (fl 2 (.list (m.lines.map lnD)) && (fl 2 (.int m.paid) && (fl 2 (.list (m.rows.map rowD)) && true))) = true
  have h1 : fl 2 (.list (m.lines.map lnD)) = true := fl_map fun l hl => fl_ln (h.ln l hl).it
  have h2 : fl 2 (.list (m.rows.map rowD)) = true := fl_map fun r hr => fl_row (h.rw r hr)
  rw [h1, h2]
  rfl
theorem shaped_acc {M : List Od} (W : WF M) : SeqAt.shaped (.list (M.map odD)) = true := shaped_fl (n := 4) (fl_map fun m hm => fl_od (W.ok m hm))
theorem eqv_nil {ds : List PyData} : PyData.eqv (.list ds) (.list []) = ds.isEmpty := by
  cases ds <;> rfl
def W12 : List Str := ["deliver", "deliver", "deliver", "deliver", "back", "swap", "credit", "pay", "pay", "refund", "move", "order"]
def W8 (x : Str) : Prop := GoodsW x ∨ MoneyW x ∨ x = "move" ∨ x = "order"
theorem w12_at (i : Nat) (h : i < 12) : ∃ x, W12[i]? = some x ∧ W8 x := by
  have h2 : i < W12.length := h
  refine ⟨W12[i], List.getElem?_eq_getElem h2, ?_⟩
  have : ∀ x ∈ W12, W8 x := by
    intro x hx
    simp only [W12, List.mem_cons, List.not_mem_nil, or_false] at hx
    unfold W8 GoodsW MoneyW
    rcases hx with h | h | h | h | h | h | h | h | h | h | h | h <;> simp [h]
  exact this _ (List.getElem_mem h2)
/-! ### the class that refuses -/
theorem goods_ne {x : Str} (h : GoodsW x) : x ≠ "order" ∧ x ≠ "move" ∧ x ≠ "pay" ∧ x ≠ "refund" := by
  rcases h with rfl | rfl | rfl | rfl <;> exact ⟨by decide +kernel, by decide +kernel, by decide +kernel, by decide +kernel⟩
theorem money_ne {x : Str} (h : MoneyW x) : x ≠ "order" ∧ x ≠ "move" ∧ x ≠ "deliver" ∧ x ≠ "credit" := by
  rcases h with rfl | rfl <;> exact ⟨by decide +kernel, by decide +kernel, by decide +kernel, by decide +kernel⟩
theorem dec_str_no {x y : Str} (h : x ≠ y) : decide (V.str x = V.str y) = false := decide_eq_false fun e => h (V.str.inj e)
/-- what a tuple of data holds -/
theorem tup4 {H : Hp} {v : V} {a b c d : PyData} (h : Dp K H v (.tuple [a, b, c, d])) : ∃ p x y z u, v = .ref p ∧ SqT K H p [x, y, z, u] ∧ Dp K H x a ∧ Dp K H y b ∧ Dp K H z c ∧ Dp K H u d := by
  obtain ⟨p, xs, rfl, s, r⟩ := dp_tuple h
  cases r with
  | cons h1 r => cases r with
    | cons h2 r => cases r with
      | cons h3 r => cases r with
        | cons h4 r => cases r; exact ⟨p, _, _, _, _, rfl, s, h1, h2, h3, h4⟩
theorem tup3 {H : Hp} {v : V} {a b c : PyData} (h : Dp K H v (.tuple [a, b, c])) : ∃ p x y z, v = .ref p ∧ SqT K H p [x, y, z] ∧ Dp K H x a ∧ Dp K H y b ∧ Dp K H z c := by
  obtain ⟨p, xs, rfl, s, r⟩ := dp_tuple h
  cases r with
  | cons h1 r => cases r with
    | cons h2 r => cases r with
      | cons h3 r => cases r; exact ⟨p, _, _, _, rfl, s, h1, h2, h3⟩
theorem tup2 {H : Hp} {v : V} {a b : PyData} (h : Dp K H v (.tuple [a, b])) : ∃ p x y, v = .ref p ∧ SqT K H p [x, y] ∧ Dp K H x a ∧ Dp K H y b := by
  obtain ⟨p, xs, rfl, s, r⟩ := dp_tuple h
  cases r with
  | cons h1 r => cases r with
    | cons h2 r => cases r; exact ⟨p, _, _, rfl, s, h1, h2⟩
/-- the deeds' tuples -/
theorem deed_goods {H : Hp} {v : V} {x : Str} {o l n : Int} (h : Dp K H v (deedD (.goods x o l n))) : ∃ p, v = .ref p ∧ SqT K H p [.str x, .int o, .int l, .int n] := by
  obtain ⟨p, a, b, c, d, rfl, s, h1, h2, h3, h4⟩ := tup4 h
  rw [dp_str h1, dp_int h2, dp_int h3, dp_int h4] at s
  exact ⟨p, rfl, s⟩
theorem deed_move {H : Hp} {v : V} {o l n : Int} (h : Dp K H v (deedD (.move o l n))) : ∃ p, v = .ref p ∧ SqT K H p [.str "move", .int o, .int l, .int n] := by
  obtain ⟨p, a, b, c, d, rfl, s, h1, h2, h3, h4⟩ := tup4 h
  rw [dp_str h1, dp_int h2, dp_int h3, dp_int h4] at s
  exact ⟨p, rfl, s⟩
theorem deed_money {H : Hp} {v : V} {x : Str} {o n : Int} (h : Dp K H v (deedD (.money x o n))) : ∃ p, v = .ref p ∧ SqT K H p [.str x, .int o, .int n] := by
  obtain ⟨p, a, b, c, rfl, s, h1, h2, h3⟩ := tup3 h
  rw [dp_str h1, dp_int h2, dp_int h3] at s
  exact ⟨p, rfl, s⟩
theorem deed_ord {H : Hp} {v : V} {ls : List LineT} (h : Dp K H v (deedD (.ord ls))) : ∃ p x, v = .ref p ∧ SqT K H p [.str "order", x] ∧ Dp K H x (.list (ls.map lineD)) := by
  obtain ⟨p, a, b, rfl, s, h1, h2⟩ := tup2 h
  rw [dp_str h1] at s
  exact ⟨p, b, rfl, s, h2⟩
theorem refusal_goods (M : List Od) (x : Str) (o l n : Int) : refusalM M (.goods x o l n) = (if inR o M.length = false then "NoOrder" else if inR l (ordAt M o).lines.length = false then "NoLine" else if n < 1 then "NoNumber" else if mostM x o l M < n then "TooMuch" else "" : Str) := rfl
theorem refusal_money (M : List Od) (x : Str) (o n : Int) : refusalM M (.money x o n) = (if inR o M.length = false then "NoOrder" else if n < 1 then "NoNumber" else if ¬ x = "pay" ∧ mostM x o 0 M < n then "TooMuch" else "" : Str) := rfl
theorem refusal_move (M : List Od) (o l n : Int) : refusalM M (.move o l n) = (if inR o M.length = false ∨ inR l M.length = false then "NoOrder" else if o = l then "SameOrder" else if n < 1 then "NoNumber" else if mostM "move" o 0 M < n then "TooMuch" else "" : Str) := rfl
/-! ### what a deed turns -/
theorem ne_strs : ("NoOrder" : Str) ≠ "" ∧ ("NoLine" : Str) ≠ "" ∧ ("NoNumber" : Str) ≠ "" ∧ ("TooMuch" : Str) ≠ "" ∧ ("SameOrder" : Str) ≠ "" := by
  refine ⟨?_, ?_, ?_, ?_, ?_⟩ <;> decide +kernel
theorem in_of {n : Int} {k : Nat} (h : ¬ inR n k = false) : 0 ≤ n ∧ n < (k : Int) := by
  cases e : inR n k with
  | false => exact absurd e h
  | true => exact inR_iff.mp e
theorem legal_goods {M : List Od} {x : Str} {o l n : Int} (h : refusalM M (.goods x o l n) = "") : (0 ≤ o ∧ o < (M.length : Int)) ∧ (0 ≤ l ∧ l < ((ordAt M o).lines.length : Int)) ∧ 1 ≤ n ∧ n ≤ mostM x o l M := by
  obtain ⟨s1, s2, s3, s4, s5⟩ := ne_strs
  rw [refusal_goods] at h
  split at h
  · exact absurd h s1
  split at h
  · exact absurd h s2
  split at h
  · exact absurd h s3
  split at h
  · exact absurd h s4
  · exact ⟨in_of (by assumption), in_of (by assumption), by omega, by omega⟩
theorem legal_money {M : List Od} {x : Str} {o n : Int} (h : refusalM M (.money x o n) = "") : (0 ≤ o ∧ o < (M.length : Int)) ∧ 1 ≤ n ∧ (x = "pay" ∨ n ≤ mostM x o 0 M) := by
  obtain ⟨s1, s2, s3, s4, s5⟩ := ne_strs
  rw [refusal_money] at h
  split at h
  · exact absurd h s1
  split at h
  · exact absurd h s3
  split at h
  · exact absurd h s4
  · rename_i h1 h2 h3
    refine ⟨in_of h1, by omega, ?_⟩
    by_cases e : x = "pay"
    · exact .inl e
    · exact .inr (by
        rcases Int.lt_or_le (mostM x o 0 M) n with z | z
        · exact absurd ⟨e, z⟩ h3
        · exact z)
theorem legal_move {M : List Od} {o l n : Int} (h : refusalM M (.move o l n) = "") : (0 ≤ o ∧ o < (M.length : Int)) ∧ (0 ≤ l ∧ l < (M.length : Int)) ∧ o ≠ l ∧ 1 ≤ n ∧ n ≤ mostM "move" o 0 M := by
  obtain ⟨s1, s2, s3, s4, s5⟩ := ne_strs
  rw [refusal_move] at h
  split at h
  · exact absurd h s1
  split at h
  · exact absurd h s5
  split at h
  · exact absurd h s3
  split at h
  · exact absurd h s4
  · rename_i h1 h2 h3 h4
    exact ⟨in_of fun z => h1 (.inl z), in_of fun z => h1 (.inr z), h2, by omega, by omega⟩
theorem ordAt_set {M : List Od} {k o : Int} {m : Od} (hk0 : 0 ≤ k) (hk1 : k < (M.length : Int)) (ho : 0 ≤ o) : ordAt (M.set k.toNat m) o = if k = o then m else ordAt M o := by
  unfold ordAt
  rw [List.getD_eq_getElem?_getD, List.getD_eq_getElem?_getD]
  by_cases e : k = o
  · subst e
    rw [if_pos rfl, List.getElem?_set_self (by omega)]
    rfl
  · rw [if_neg e, List.getElem?_set_ne (by omega)]
theorem sign_eq {x : Str} {n : Int} : (1 - 2 * (if (!decide (V.str x = V.str "pay")) = true then (1 : Int) else 0)) * n = if x = "pay" then n else -n := by
  by_cases e : x = "pay"
  · rw [if_pos e, decide_eq_true (congrArg V.str e)]
    show (1 - 2 * 0) * n = n
    omega
  · rw [if_neg e, dec_str_no e]
    show (1 - 2 * 1) * n = -n
    omega
theorem turnL_home {w : Str} {n : Int} {it : Str} {pc ce pa se hm ag cr a2 : Int} (h1 : ¬ w = "deliver") (h2 : ¬ w = "credit") (h : a2 = ag + (if w = "swap" then n else 0)) {L : Ln} (hL : (⟨it, pc, ce, pa, se, hm + n, a2, cr⟩ : Ln) = L) :
    { L with credited := if L.worth < L.credited then L.worth else L.credited } = turnL w n ⟨it, pc, ce, pa, se, hm, ag, cr⟩ := by
  subst h
  unfold turnL
  rw [if_neg h1, if_neg h2]
  dsimp only
  rw [hL, Int.min_def]
  subst hL
  dsimp only
  congr 1
  split <;> split <;> omega
/-! ### a deed done on the plain account -/
theorem turnM_length {M : List Od} {d : Deed} : (turnM M d).length = M.length := by
  cases d <;> simp [turnM]
theorem WF.set {M : List Od} {k : Nat} {m : Od} (W : WF M) (h : m.Ok) : WF (M.set k m) := ⟨fun x hx => by
  rcases List.mem_or_eq_of_mem_set hx with z | rfl
  · exact W.ok x z
  · exact h⟩
theorem Od.Ok.setLine {m : Od} {j : Nat} {l : Ln} (h : m.Ok) (hl : l.Ok) : (setLine m j l).Ok :=
  ⟨by show 1 ≤ (m.lines.set j l).length; rw [List.length_set]; exact h.ne, by show (m.lines.set j l).length ≤ 20; rw [List.length_set]; exact h.le, fun x hx => by
    rcases List.mem_or_eq_of_mem_set hx with z | rfl
    · exact h.ln x z
    · exact hl, h.rw⟩
theorem Od.Ok.addPaid {m : Od} {n : Int} (h : m.Ok) : (addPaid m n).Ok := ⟨h.ne, h.le, h.ln, h.rw⟩
theorem Od.Ok.addRow {m : Od} {w : Str} {n : Int} (h : m.Ok) (hw : PyData.strOk w = true) : (addRow m w n).Ok := ⟨h.ne, h.le, h.ln, fun r hr => by
  rcases List.mem_append.mp hr with z | z
  · exact h.rw r z
  · rw [List.mem_singleton] at z
    rw [z]
    exact hw⟩
theorem Ln.Ok.turn {l : Ln} {w : Str} {n : Int} (h : l.Ok) : (turnL w n l).Ok := by
  unfold turnL
  split
  · exact ⟨h.c0, h.c1, h.p0, h.p1, h.it⟩
  split
  · exact ⟨h.c0, h.c1, h.p0, h.p1, h.it⟩
  · exact ⟨h.c0, h.c1, h.p0, h.p1, h.it⟩
theorem WF.turn {M : List Od} {d : Deed} (W : WF M) (h : refusalM M d = "") : WF (turnM M d) := by
  cases d with
  | ord ls => exact W
  | goods x o l n =>
    obtain ⟨⟨h0, h1⟩, ⟨g0, g1⟩, _⟩ := legal_goods h
    exact W.set ((W.at_ h0 h1).setLine ((W.at_ h0 h1).at_ g0 g1).turn)
  | money x o n =>
    obtain ⟨⟨h0, h1⟩, _⟩ := legal_money h
    exact W.set (W.at_ h0 h1).addPaid
  | move o l n =>
    obtain ⟨⟨h0, h1⟩, ⟨g0, g1⟩, _⟩ := legal_move h
    exact (W.set (W.at_ h0 h1).addPaid).set (W.at_ g0 g1).addPaid
theorem rowsM_length {w : Str} : ∀ {cs : List (Int × Int)} {M : List Od}, (rowsM M w cs).length = M.length
  | [], _ => rfl
  | c :: cs, M => by
    show (rowsM (M.set c.1.toNat (addRow (ordAt M c.1) w c.2)) w cs).length = _
    rw [rowsM_length, List.length_set]
theorem WF.rows {w : Str} (hw : PyData.strOk w = true) : ∀ {cs : List (Int × Int)} {M : List Od}, WF M → (∀ c ∈ cs, 0 ≤ c.1 ∧ c.1 < (M.length : Int)) → WF (rowsM M w cs)
  | [], _, W, _ => W
  | c :: cs, M, W, h => by
    show WF (rowsM (M.set c.1.toNat (addRow (ordAt M c.1) w c.2)) w cs)
    obtain ⟨h0, h1⟩ := h c (.head _)
    refine WF.rows hw (W.set ((W.at_ h0 h1).addRow hw)) fun c' hc => ?_
    rw [List.length_set]
    exact h c' (.tail _ hc)
theorem rowsM_snoc {M : List Od} {w : Str} {cs : List (Int × Int)} {c : Int × Int} : rowsM M w (cs ++ [c]) = (rowsM M w cs).set c.1.toNat (addRow (ordAt (rowsM M w cs) c.1) w c.2) := by
  unfold rowsM
  rw [List.foldl_append]
  rfl
theorem places_in {M : List Od} {d : Deed} (h : refusalM M d = "") : ∀ a ∈ placesM d, 0 ≤ a ∧ a < (M.length : Int) := by
  intro a ha
  cases d with
  | ord ls => cases ha
  | goods x o l n => rw [List.mem_singleton.mp ha]; exact (legal_goods h).1
  | money x o n => rw [List.mem_singleton.mp ha]; exact (legal_money h).1
  | move o l n =>
    rcases List.mem_cons.mp ha with e | e
    · rw [e]; exact (legal_move h).1
    · rw [List.mem_singleton.mp e]; exact (legal_move h).2.1
theorem word_ok {d : Deed} (h : d.Shape) : PyData.strOk d.word = true := by
  cases d with
  | ord ls => show PyData.strOk "order" = true; decide +kernel
  | goods x o l n => show PyData.strOk x = true; rcases h with rfl | rfl | rfl | rfl <;> decide +kernel
  | money x o n => show PyData.strOk x = true; rcases h with rfl | rfl <;> decide +kernel
  | move o l n => show PyData.strOk "move" = true; decide +kernel
theorem WF.step {M : List Od} {d : Deed} (W : WF M) (sh : d.Shape) (lo : d.LinesOk) (h : refusalM M d = "") : WF (stepM M d) := by
  have go : (∀ ls, d ≠ .ord ls) → WF (rowsM (turnM M d) d.word (changesM M d)) := fun _ => by
    refine WF.rows (word_ok sh) (W.turn h) fun c hc => ?_
    obtain ⟨a, ha, rfl⟩ := List.mem_map.mp hc
    rw [turnM_length]
    exact places_in h a ha
  cases d with
  | ord ls =>
    obtain ⟨l0, l1, lk⟩ := lo
    refine ⟨fun m hm => ?_⟩
    rcases List.mem_append.mp hm with z | z
    · exact W.ok m z
    · rw [List.mem_singleton] at z
      subst z
      refine ⟨by simpa using l0, by simpa using l1, fun l hl => ?_, fun r hr => by cases hr⟩
      obtain ⟨t, ht, rfl⟩ := List.mem_map.mp hl
      exact (lk t ht).ln
  | goods x o l n => exact go fun _ z => nomatch z
  | money x o n => exact go fun _ z => nomatch z
  | move o l n => exact go fun _ z => nomatch z
theorem deed_gen {F : Hp} {v : V} {d : Deed} (h : Dp K F v (deedD d)) (sh : d.Shape) (no : ∀ ls, d ≠ .ord ls) : ∃ (b : Addr) (o : Int) (rest : List V), v = .ref b ∧ SqT K F b (.str d.word :: .int o :: rest) ∧ d.word ≠ "order" ∧
    ((d.word = "move" ∧ ∃ o2 r2, rest = .int o2 :: r2 ∧ placesM d = [o, o2]) ∨ (d.word ≠ "move" ∧ placesM d = [o])) := by
  cases d with
  | ord ls => exact absurd rfl (no ls)
  | goods x o l n =>
    obtain ⟨b, rfl, hb⟩ := deed_goods h
    obtain ⟨n1, n2, _⟩ := goods_ne sh
    exact ⟨b, o, _, rfl, hb, n1, .inr ⟨n2, rfl⟩⟩
  | money x o n =>
    obtain ⟨b, rfl, hb⟩ := deed_money h
    obtain ⟨n1, n2, _⟩ := money_ne sh
    exact ⟨b, o, _, rfl, hb, n1, .inr ⟨n2, rfl⟩⟩
  | move o l n =>
    obtain ⟨b, rfl, hb⟩ := deed_move h
    exact ⟨b, o, _, rfl, hb, by show ("move" : Str) ≠ "order"; decide +kernel, .inl ⟨rfl, l, _, rfl, rfl⟩⟩
theorem d_cases (d : Deed) : (∀ ls, d ≠ .ord ls) ∨ ∃ ls, d = .ord ls := by
  cases d with
  | ord ls => exact .inr ⟨ls, rfl⟩
  | goods x o l n => exact .inl fun _ z => nomatch z
  | money x o n => exact .inl fun _ z => nomatch z
  | move o l n => exact .inl fun _ z => nomatch z
theorem stepM_no {M : List Od} {d : Deed} (no : ∀ ls, d ≠ .ord ls) : stepM M d = rowsM (turnM M d) d.word (changesM M d) := by
  cases d with
  | ord ls => exact absurd rfl (no ls)
  | goods x o l n => rfl
  | money x o n => rfl
  | move o l n => rfl
theorem RowsLe.set {n : Nat} {M : List Od} {k : Nat} {m : Od} (W : RowsLe n M) (h : m.rows.length ≤ n) : RowsLe n (M.set k m) := fun x hx => by
  rcases List.mem_or_eq_of_mem_set hx with z | rfl
  · exact W x z
  · exact h
theorem RowsLe.ord {n : Nat} {M : List Od} (W : RowsLe n M) (k : Int) : (ordAt M k).rows.length ≤ n := by
  unfold ordAt
  rw [List.getD_eq_getElem?_getD]
  cases e : M[k.toNat]? with
  | none => exact Nat.zero_le _
  | some m => exact W m (List.mem_of_getElem? e)
theorem RowsLe.mono {n k : Nat} {M : List Od} (W : RowsLe n M) (h : n ≤ k) : RowsLe k M := fun m hm => Nat.le_trans (W m hm) h
theorem RowsLe.turn {n : Nat} {M : List Od} {d : Deed} (W : RowsLe n M) : RowsLe n (turnM M d) := by
  cases d with
  | ord ls => exact W
  | goods x o l k => exact W.set (W.ord o)
  | money x o k => exact W.set (W.ord o)
  | move o l k => exact RowsLe.set (RowsLe.set (m := addPaid (ordAt M o) (-k)) W (W.ord o)) (m := addPaid (ordAt M l) k) (W.ord l)
theorem RowsLe.rows {w : Str} : ∀ {cs : List (Int × Int)} {n : Nat} {M : List Od}, RowsLe n M → RowsLe (n + cs.length) (rowsM M w cs)
  | [], _, _, W => W
  | c :: cs, n, M, W => by
    show RowsLe (n + (cs.length + 1)) (rowsM (M.set c.1.toNat (addRow (ordAt M c.1) w c.2)) w cs)
    have h : (addRow (ordAt M c.1) w c.2).rows.length ≤ n + 1 := by
      show ((ordAt M c.1).rows ++ [(w, c.2)]).length ≤ n + 1
      rw [List.length_append]
      exact Nat.succ_le_succ (W.ord c.1)
    have := RowsLe.rows (cs := cs) (w := w) ((W.mono (Nat.le_succ n)).set (k := c.1.toNat) h)
    rw [show n + (cs.length + 1) = n + 1 + cs.length by omega]
    exact this
theorem places_le {d : Deed} : (placesM d).length ≤ 2 := by
  cases d <;> simp [placesM]
theorem RowsLe.step {n : Nat} {M : List Od} {d : Deed} (W : RowsLe n M) : RowsLe (n + 2) (stepM M d) := by
  rcases d_cases d with no | ⟨ls, rfl⟩
  · rw [stepM_no no]
    refine (W.turn.rows).mono ?_
    unfold changesM
    rw [List.length_map]
    have := places_le (d := d)
    omega
  · intro m hm
    rcases List.mem_append.mp hm with z | z
    · exact Nat.le_trans (W m z) (by omega)
    · rw [List.mem_singleton] at z
      subst z
      exact Nat.zero_le _
theorem step_length {M : List Od} {d : Deed} : (stepM M d).length ≤ M.length + 1 := by
  rcases d_cases d with no | ⟨ls, rfl⟩
  · rw [stepM_no no, rowsM_length, turnM_length]
    omega
  · show (M ++ [_]).length ≤ _
    rw [List.length_append]
    exact Nat.le_refl _
/-! ### a deed done on both -/
theorem FlatT.ch (c : Int × Int) : FlatT (chD c) := ⟨_, rfl, by show 2 ≤ 100; decide, fun p hp => by
  simp only [List.mem_cons, List.not_mem_nil, or_false] at hp
  rcases hp with rfl | rfl
  · exact .inr ⟨_, rfl⟩
  · exact .inr ⟨_, rfl⟩⟩
theorem ch_flat {cs : List (Int × Int)} : ∀ d ∈ cs.map chD, FlatT d := fun d hd => by
  obtain ⟨c, _, rfl⟩ := List.mem_map.mp hd
  exact .ch c
theorem list_fl {ds : List PyData} (h : ∀ d ∈ ds, FlatT d) : SeqAt.shaped (.list ds) = true := shaped_fl (n := 2) (by
  show ds.all (fl 1) = true
  rw [List.all_eq_true]
  exact fun d hd => (h d hd).ok)
theorem deed_fl {d : Deed} (sh : d.Shape) (lo : d.LinesOk) : SeqAt.shaped (deedD d) = true := by
  have ws := word_ok sh
  cases d with
  | ord ls =>
    obtain ⟨_, _, h⟩ := lo
    refine shaped_fl (n := 3) ?_
    show ([.str "order", .list (ls.map lineD)] : List PyData).all (fl 2) = true
    rw [List.all_eq_true]
    intro x hx
    simp only [List.mem_cons, List.not_mem_nil, or_false] at hx
    rcases hx with rfl | rfl
    · exact ws
    · show (ls.map lineD).all (fl 1) = true
      rw [List.all_eq_true]
      intro y hy
      obtain ⟨t, ht, rfl⟩ := List.mem_map.mp hy
      show ([.str t.item, .int t.pieces, .int t.cents, .int t.pack] : List PyData).all (fl 0) = true
      rw [List.all_eq_true]
      intro z hz
      simp only [List.mem_cons, List.not_mem_nil, or_false] at hz
      rcases hz with rfl | rfl | rfl | rfl
      · exact (h t ht).str
      all_goals rfl
  | goods x o l n =>
    refine shaped_fl (n := 1) ?_
    show ([.str x, .int o, .int l, .int n] : List PyData).all (fl 0) = true
    rw [List.all_eq_true]
    intro z hz
    simp only [List.mem_cons, List.not_mem_nil, or_false] at hz
    rcases hz with rfl | rfl | rfl | rfl
    · exact ws
    all_goals rfl
  | money x o n =>
    refine shaped_fl (n := 1) ?_
    show ([.str x, .int o, .int n] : List PyData).all (fl 0) = true
    rw [List.all_eq_true]
    intro z hz
    simp only [List.mem_cons, List.not_mem_nil, or_false] at hz
    rcases hz with rfl | rfl | rfl
    · exact ws
    all_goals rfl
  | move o l n =>
    refine shaped_fl (n := 1) ?_
    show ([.str "move", .int o, .int l, .int n] : List PyData).all (fl 0) = true
    rw [List.all_eq_true]
    intro z hz
    simp only [List.mem_cons, List.not_mem_nil, or_false] at hz
    rcases hz with rfl | rfl | rfl | rfl
    · exact ws
    all_goals rfl
theorem LineT.Ok.item {t : LineT} (h : t.Ok) : itemOk t.item = true := by
  unfold itemOk
  rw [Bool.and_eq_true, Bool.and_eq_true, decide_eq_true_eq, decide_eq_true_eq, List.all_eq_true]
  refine ⟨⟨h.i0, h.i1⟩, fun c hc => ?_⟩
  rw [Bool.and_eq_true, decide_eq_true_eq, decide_eq_true_eq]
  exact h.ia c hc
theorem LineT.Ok.nums {t : LineT} (h : t.Ok) : numsOk t = true := by
  unfold numsOk
  simp only [Bool.and_eq_true, decide_eq_true_eq]
  exact ⟨⟨⟨⟨⟨h.n0, h.n1⟩, h.c0⟩, h.c1⟩, h.p0⟩, h.p1⟩
theorem firstBad_ok : ∀ {ls : List LineT}, (∀ t ∈ ls, t.Ok) → firstBad ls = ""
  | [], _ => rfl
  | t :: ts, h => by
    unfold firstBad
    rw [(h t (.head _)).item, (h t (.head _)).nums, if_neg (by decide), if_neg (by decide)]
    exact firstBad_ok fun t ht => h t (.tail _ ht)
theorem refuse_ok {M : List Od} {d : Deed} (lo : d.LinesOk) (h : ∀ ls, d = .ord ls → M.length < 40) : refuseM M d = refusalM M d := by
  cases d with
  | ord ls =>
    obtain ⟨h0, h1, h2⟩ := lo
    have h3 := h ls rfl
    show (if ls.length = 0 ∨ 20 < ls.length then ("NoLines" : Str) else if ¬ firstBad ls = "" then firstBad ls else if 40 ≤ M.length then "FullBook" else "") = ""
    rw [if_neg (by omega), firstBad_ok h2, if_neg (by simp), if_neg (by omega)]
  | goods x o l n => rfl
  | money x o n => rfl
  | move o l n => rfl
theorem small_ok {d : Deed} (lo : d.LinesOk) : d.Small := by
  cases d with
  | ord ls =>
    obtain ⟨h0, h1, h2⟩ := lo
    exact ⟨by omega, fun t ht => ⟨by have := (h2 t ht).i1; omega, (h2 t ht).str⟩⟩
  | goods x o l n => trivial
  | money x o n => trivial
  | move o l n => trivial
theorem mem_if {c : Prop} [Decidable c] {s t : Str} {l : List Str} (hs : s ∈ l) (ht : t ≠ "" → t ∈ l) (h : (if c then s else t) ≠ "") : (if c then s else t) ∈ l := by
  by_cases hc : c
  · rw [if_pos hc]; exact hs
  · rw [if_neg hc] at h ⊢; exact ht h
theorem refusal_in {M : List Od} {d : Deed} (h : refusalM M d ≠ "") : refusalM M d ∈ errs9 := by
  cases d with
  | ord ls => exact absurd rfl h
  | goods x o l n =>
    rw [refusal_goods] at h ⊢
    exact mem_if (by decide) (mem_if (by decide) (mem_if (by decide) (mem_if (by decide) fun z => absurd rfl z))) h
  | money x o n =>
    rw [refusal_money] at h ⊢
    exact mem_if (by decide) (mem_if (by decide) (mem_if (by decide) fun z => absurd rfl z)) h
  | move o l n =>
    rw [refusal_move] at h ⊢
    exact mem_if (by decide) (mem_if (by decide) (mem_if (by decide) (mem_if (by decide) fun z => absurd rfl z))) h
/-! ### what was told stays; the orders touched -/
/-! ### a book begun -/
structure Legal (S : BS) (d : Deed) : Prop where
  sh : d.Shape
  lo : d.LinesOk
  lg : refuseM S.M d = ""
  few : ∀ ls, d = .ord ls → S.M.length < 40
theorem Legal.ref {S : BS} {d : Deed} (h : Legal S d) : refusalM S.M d = "" := by rw [← refuse_ok h.lo h.few]; exact h.lg
def penD (k : Nat) : Deed := .ord [⟨"pen", 1 + (k : Int), 3, 1⟩]
theorem pen_ok (k : Nat) (hk : k < 40) : (⟨"pen", 1 + (k : Int), 3, 1⟩ : LineT).Ok :=
  ⟨by show 1 ≤ 1 + (k : Int); omega, by show 1 + (k : Int) ≤ 1000000; omega, by show (0 : Int) ≤ 3; decide, by show (3 : Int) ≤ 1000000000; decide, by show (1 : Int) ≤ 1; decide, by show (1 : Int) ≤ 1000; decide,
    by show 1 ≤ ("pen" : Str).length; decide +kernel, by show ("pen" : Str).length ≤ 12; decide +kernel, by show ∀ c ∈ ("pen" : Str).cps.toList, 97 ≤ c ∧ c ≤ 122; decide +kernel⟩
theorem legal_pen {S : BS} (h : S.M.length < 40) : Legal S (penD S.M.length) := by
  have lo : (penD S.M.length).LinesOk := ⟨Nat.le_refl 1, by show 1 ≤ 20; decide, fun t ht => by rw [List.mem_singleton.mp ht]; exact pen_ok _ h⟩
  exact ⟨trivial, lo, refuse_ok lo (fun _ _ => h), fun _ _ => h⟩
theorem at_pen {M : List Od} {m : Od} : ordAt (M ++ [m]) (M.length : Int) = m := by
  unfold ordAt
  rw [List.getD_eq_getElem?_getD, Int.toNat_natCast, List.getElem?_append_right (Nat.le_refl _), Nat.sub_self]
  rfl
theorem in_pen {M : List Od} {m : Od} : inR (M.length : Int) (M ++ [m]).length = true := inR_iff.mpr ⟨by omega, by rw [List.length_append]; show (M.length : Int) < ((M.length + 1 : Nat) : Int); omega⟩
theorem legal_deliver {S : BS} : Legal (S.did (penD S.M.length)) (.goods "deliver" S.M.length 0 (1 + (S.M.length : Int) / 2)) := by
  refine ⟨.inl rfl, trivial, ?_, fun _ z => nomatch z⟩
  show refusalM (S.did (penD S.M.length)).M (.goods "deliver" (S.M.length : Int) 0 (1 + (S.M.length : Int) / 2)) = ""
  rw [show (S.did (penD S.M.length)).M = S.M ++ [⟨[(⟨"pen", 1 + (S.M.length : Int), 3, 1⟩ : LineT).new], 0, []⟩] from rfl]
  rw [refusal_goods, if_neg (by rw [in_pen]; exact Bool.noConfusion), at_pen, if_neg (by show ¬ inR 0 1 = false; decide), if_neg (by omega), if_neg ?_]
  unfold mostM
  rw [if_neg (by rw [in_pen]; exact Bool.noConfusion), if_neg (by decide +kernel), if_neg (by decide +kernel), at_pen, if_neg (by show ¬ inR 0 1 = false; decide)]
  show ¬ mostL "deliver" ⟨"pen", 1 + (S.M.length : Int), 3, 1, 0, 0, 0, 0⟩ < _
  unfold mostL
  rw [if_pos rfl]
  show ¬ (1 + (S.M.length : Int)) - 0 + 0 < _
  omega
theorem legal_pay {S : BS} (h : 1 ≤ S.M.length) : Legal (S.did (penD S.M.length)) (.money "pay" S.M.length (5 * (S.M.length : Int))) := by
  refine ⟨.inl rfl, trivial, ?_, fun _ z => nomatch z⟩
  show refusalM (S.did (penD S.M.length)).M (.money "pay" (S.M.length : Int) (5 * (S.M.length : Int))) = ""
  rw [show (S.did (penD S.M.length)).M = S.M ++ [⟨[(⟨"pen", 1 + (S.M.length : Int), 3, 1⟩ : LineT).new], 0, []⟩] from rfl]
  rw [refusal_money, if_neg (by rw [in_pen]; exact Bool.noConfusion), if_neg (by omega), if_neg (fun z => z.1 rfl)]
end
end Of

set_option Elab.async false
set_option linter.all false
set_option maxRecDepth 100000
set_option maxHeartbeats 4000000
/-! One book alone. -/
namespace Of
open PySem PyProof.Rows L2
/-- what the book owns has grown and changed; nothing else -/
structure Bo (fp : Addr → Prop) (H : Hp) (fp' : Addr → Prop) (H' : Hp) : Prop where
  g : GrowF fp fp' H
  k : Keep fp H H'
section
variable {fp fp1 fp2 : Addr → Prop} {H H1 H2 : Hp} {R : BRep} {b : Addr} {S : BS}
theorem Bo.refl : Bo fp H fp H := ⟨.refl, .refl H⟩
theorem Bo.same (s : Same H H1) : Bo fp H fp H1 := ⟨.refl, .same s⟩
theorem Bo.trans (a : Bo fp H fp1 H1) (c : Bo fp1 H1 fp2 H2) : Bo fp H fp2 H2 := ⟨a.g.trans c.g a.k, a.k.then c.k fun x z => a.g.n x z⟩
theorem Bo.off (a : Bo fp H fp1 H1) : Same (off fp H) (off fp1 H1) := off_keep a.k (fun _ z => z) a.g
theorem BRep.same (r : R.Rep fp H b S) (s : Same H H1) : R.Rep fp H1 b S := R.stays r (fun a o _ e => s a o e) fun a o _ e => s a o e
end
/-- an order of one line -/
def M1 (l : Ln) (rows : List (Str × Int)) : List Od := [⟨[l], 0, rows⟩]
theorem owed_1 {l : Ln} {p : Int} {rows : List (Str × Int)} : (⟨[l], p, rows⟩ : Od).owed = l.charge - p := by
  show ([l.charge].sum) - p = _
  rw [List.sum_cons, List.sum_nil, Int.add_zero]
theorem refuse_1 {l : Ln} {p : Int} {rows : List (Str × Int)} {x : Str} {n : Int} (gw : GoodsW x) : refuseM [⟨[l], p, rows⟩] (.goods x 0 0 n) = if n < 1 then ("NoNumber" : Str) else if mostL x l < n then ("TooMuch" : Str) else ("" : Str) := by
  obtain ⟨_, n2, n3, n4⟩ := goods_ne gw
  show refusalM [⟨[l], p, rows⟩] (.goods x 0 0 n) = _
  rw [refusal_goods, if_neg (by show ¬ inR 0 1 = false; decide), if_neg (by show ¬ inR 0 1 = false; decide)]
  have e : mostM x 0 0 [⟨[l], p, rows⟩] = mostL x l := by
    unfold mostM
    rw [if_neg (by show ¬ inR 0 1 = false; decide), if_neg n3, if_neg (by simp only [not_or]; exact ⟨n4, n2⟩), if_neg (by show ¬ inR 0 1 = false; decide)]
    rfl
  rw [e]
theorem changes_1 {l : Ln} {rows : List (Str × Int)} {x : Str} {n : Int} : changesM (M1 l rows) (.goods x 0 0 n) = [(0, (turnL x n l).charge - l.charge)] := by
  show [((0 : Int), (ordAt (turnM (M1 l rows) (.goods x 0 0 n)) 0).owed - (ordAt (M1 l rows) 0).owed)] = _
  rw [show ordAt (turnM (M1 l rows) (.goods x 0 0 n)) 0 = ⟨[turnL x n l], 0, rows⟩ from rfl, show ordAt (M1 l rows) 0 = ⟨[l], 0, rows⟩ from rfl, owed_1, owed_1, Int.sub_zero, Int.sub_zero]
theorem step_1 {l : Ln} {rows : List (Str × Int)} {x : Str} {n : Int} : ∃ rows', stepM (M1 l rows) (.goods x 0 0 n) = M1 (turnL x n l) rows' := by
  rw [stepM_no (fun _ z => by cases z), changes_1]
  exact ⟨_, rfl⟩
end Of

set_option Elab.async false
set_option linter.all false
set_option maxRecDepth 100000
set_option maxHeartbeats 4000000
/-! What the program's own text wants: two more built-ins, a list's place read and written anew, a method of a class, enumerate within a comprehension. -/
namespace Of
open PySem PySem.Spec PyProof.Rows L2
structure Bl2 (mg : Str → Option Value) : Prop where
  m_enumerate : mg "enumerate" = none
  m_all : mg "all" = none
/-- xs[k], by values -/
def rGetL (K : PySem.W.Frag) : V → V → Hp → VK → Prop := fun o i H Q => ∃ p xs k v, o = .ref p ∧ i = .int k ∧ SqL K H p xs ∧ 0 ≤ k ∧ atI xs k = some v ∧ Q v H
theorem get_list {X : Cx} : PGet X (rGetL X.K) := by
  intro pins s σ H o i ov iv Q I ro ri h
  obtain ⟨p, xs, k, z, rfl, rfl, hq, h0, he, q⟩ := h
  cases ro
  obtain ⟨t, rfl⟩ := ri
  obtain ⟨its, r, pl, hz⟩ := I.list hq
  obtain ⟨j, h1, h2, h3, h4, h5⟩ := atI_get he
  obtain ⟨w, ew, rw'⟩ := r.get h2
  have hl := r.length
  have hn := line63
  have hj : k.toNat = j := by
    rw [seqIndex_of h0 h5] at h1
    exact Option.some.inj h1
  exact wpAny_getItem_list pl.isList h0 (by omega) (by rw [hj]; simpa using ew) ⟨z, H, I, rw', q⟩
theorem kg_list {X : Cx} (K : PySem.W.Frag) (h : X.K = K := by rfl) : PGet X (rGetL K) := h ▸ get_list
/-! ### a method of a class -/
structure MCal (P : Program) (w : World) (K : PySem.W.Frag) (mg : Str → Option Value) (base : Heap) (CX : CXT) (k : Nat) (C : Addr) (m : Str) (ps : List Str) (sp : Sp) : Prop where
  cls : Cls K C
  ex : ∃ f fd, Meth K C m f ∧ FnOk P w K mg base CX k f fd ps sp ∧ Binds K fd ps []
/-- an instance without an attribute of the method's name -/
def IsI (C : Addr) (m : Str) (H : Hp) (x : V) : Prop := ∃ a dx fs, x = .ref a ∧ H a = some (.ins C dx fs) ∧ fs.lookup m = none
def tM (C : Addr) (m : Str) (sp : Sp) (E : XK) (ta : TE) (t : TA) : TE := fun σ H Q => ta σ H fun x H1 => IsI C m H1 x ∧ t σ H1 fun vs H2 => sp (x :: vs) H2 Q E
def tMS (C : Addr) (m : Str) (sp : Sp) (E : L2.St → XK) (ta : TE) (t : TA) : TE := fun σ H Q => ta σ H fun x H1 => IsI C m H1 x ∧ t σ H1 fun vs H2 => sp (x :: vs) H2 Q (E σ)
section
variable {X : Cx} {CX : CXT} {k : Nat} {C : Addr} {ps : List Str} {sp : Sp} {E : XK} {ES : L2.St → XK} {m : Str} {p pos apos : Pos} {e o : Expr} {es : List Expr} {ta : TE} {t : TA}
theorem MCal.mono {P : Program} {w : World} {K : PySem.W.Frag} {mg : Str → Option Value} {base : Heap} {j : Nat} (c : MCal P w K mg base CX j C m ps sp) (h : j ≤ k) : MCal P w K mg base CX k C m ps sp := by
  obtain ⟨f, fd, hm, F, r⟩ := c.ex
  exact ⟨c.cls, f, fd, hm, F.mono h, r⟩
theorem MCal.imp {P : Program} {w : World} {K : PySem.W.Frag} {mg : Str → Option Value} {base : Heap} {sp' : Sp} (c : MCal P w K mg base CX k C m ps sp) (h : ∀ vs H Q E, sp' vs H Q E → sp vs H Q E) : MCal P w K mg base CX k C m ps sp' := by
  obtain ⟨f, fd, hm, F, r⟩ := c.ex
  exact ⟨c.cls, f, fd, hm, F.imp h, r⟩
theorem pe_m {pl : Sem Bool} (B : MCal X.prog X.w X.K X.mg X.base CX k C m ps sp) (he : PE X o ta) (hr : Room k X.A) (hx : Passes CX X E) (ha : PA X (e :: es) t)
    (hst : starEach (e :: es) X.env = (false, eval e X.env) :: starEach es X.env := by rfl) (hpl : (backTo pos (starEach es X.env)).any (·.1) = false := by rfl)
    (ht : eval (.Call (.Attribute o m apos) (e :: es) [] pos) X.env = (do
      let ov ← eval o X.env
      standAt apos.atName
      let (f, first) ← holding [ov] (getMethod ov m pl)
      callWith pos f first (backTo pos (starEach (e :: es) X.env)) (backToKw pos (keywordEach [] X.env))) := by rfl) :
    PE X (.Call (.Attribute o m apos) (e :: es) [] pos) (tM C m sp E ta t) := by
  obtain ⟨f, fd, hm, F, hb⟩ := B.ex
  refine ⟨fun pins s σ H Q I h => ?_⟩
  refine PySem.W.methodCall_KW (pl := pl) (thn (he.run pins s σ H _ I h) fun u s1 ⟨x, H1, I1, rx, ⟨a, dx, fs, ex, ea, l⟩, q⟩ => ?_) ht
  subst ex
  obtain rfl : u = Value.ref a := rx
  refine getmeth_ok I1 ea B.cls hm l ?_
  refine PySem.W.callWith_K (first := [.ref a]) (h₀ := X.base) I.ok.mod.kin hm.kp (thn (ha.run pos pins s1 σ H1 _ I1 q) fun us s2 ⟨vs, H2, I2, r, q2⟩ => ⟨I2.kIn, ?_⟩) hst hpl
  exact run_fn (us := .ref a :: us) (vs := .ref a :: vs) (dvs := []) F hr hb .nil hx I2 (.cons rfl r) (by rw [List.append_nil]; exact q2)
theorem pe_m0 {pl : Sem Bool} (B : MCal X.prog X.w X.K X.mg X.base CX k C m ps sp) (he : PE X o ta) (hr : Room k X.A) (hx : Passes CX X E)
    (ht : eval (.Call (.Attribute o m apos) [] [] pos) X.env = (do
      let ov ← eval o X.env
      standAt apos.atName
      let (f, first) ← holding [ov] (getMethod ov m pl)
      callWith pos f first (backTo pos (starEach [] X.env)) (backToKw pos (keywordEach [] X.env))) := by rfl) :
    PE X (.Call (.Attribute o m apos) [] [] pos) (tM C m sp E ta tNil) := by
  obtain ⟨f, fd, hm, F, hb⟩ := B.ex
  refine ⟨fun pins s σ H Q I h => ?_⟩
  refine PySem.W.methodCall_KW (pl := pl) (thn (he.run pins s σ H _ I h) fun u s1 ⟨x, H1, I1, rx, ⟨a, dx, fs, ex, ea, l⟩, q⟩ => ?_) ht
  subst ex
  obtain rfl : u = Value.ref a := rx
  refine getmeth_ok I1 ea B.cls hm l ?_
  exact PySem.W.callWith_K0 (first := [.ref a]) I1.kIn hm.kp (run_fn (us := [.ref a]) (vs := [.ref a]) (dvs := []) F hr hb .nil hx I1 (.cons rfl .nil) q)
end
/-! ### enumerate within a comprehension -/
theorem wipe2 {σ : L2.St} {i j : Nat} {x y : Option V} (h : i ≠ j) : wipe (((wipe σ [i, j]).set i x).set j y) [i, j] = wipe σ [i, j] := by
  show (((((σ.set j none).set i none).set i x).set j y).set j none).set i none = (σ.set j none).set i none
  rw [List.set_set, List.set_set, List.set_comm x none h, List.set_set, List.set_set]
/-- the places of the ints that c takes, from k on -/
def placesOf (c : Int → Bool) (k : Nat) : List Int → List Nat
  | [] => []
  | x :: r => if c x = true then k :: placesOf c (k + 1) r else placesOf c (k + 1) r
theorem placesOf_app (c : Int → Bool) (x : Int) : ∀ (l : List Int) (k : Nat), placesOf c k (l ++ [x]) = placesOf c k l ++ (if c x = true then [k + l.length] else [])
  | [], k => by
    show (if c x = true then [k] else []) = _
    simp [placesOf]
  | y :: l, k => by
    have ih := placesOf_app c x l (k + 1)
    show (if c y = true then k :: placesOf c (k + 1) (l ++ [x]) else placesOf c (k + 1) (l ++ [x])) = (if c y = true then k :: placesOf c (k + 1) l else placesOf c (k + 1) l) ++ _
    rw [ih]
    have e : k + 1 + l.length = k + (y :: l).length := by simp only [List.length_cons]; omega
    rw [e]
    split <;> rfl
theorem placesOf_len (c : Int → Bool) : ∀ (l : List Int) (k : Nat), (placesOf c k l).length ≤ l.length
  | [], _ => Nat.le_refl _
  | y :: l, k => by
    have ih := placesOf_len c l (k + 1)
    unfold placesOf
    split <;> simp only [List.length_cons] <;> omega
/-- [place for place, x in enumerate(xs) if t] over a list of ints -/
theorem lcE_filter {K : PySem.W.Frag} {tt : TT} {te : TE} {σ : L2.St} {i j : Nat} {a D : Addr} {H1 : Hp} {Qd : Hp → Prop} {ns : List Int} (c : Int → Bool) (hij : i ≠ j) (hz : ns.length ≤ 100000) (hS : SqL K H1 a (ns.map V.int)) (hD : H1 D = none)
    (test : ∀ (k : Nat) (x : Int) (H : Hp) (R : Bool → Hp → Prop), Same H1 H → R (c x) H → tt (((wipe σ [i, j]).set i (some (.int (k : Nat)))).set j (some (.int x))) H R)
    (turn : ∀ (k : Nat) (x : Int) (H : Hp) (R : VK), Same H1 H → R (.int (k : Nat)) H → te (((wipe σ [i, j]).set i (some (.int (k : Nat)))).set j (some (.int x))) H R)
    (fin : ∀ H', Same H1 H' → H' D = some (.lst ((placesOf c 0 ns).map fun k : Nat => V.int (k : Nat))) → Qd H') :
    ∃ W : Nat → Nat → Hp → Prop, (∃ m, W 0 m (upd H1 D (.lst []))) ∧ ∀ n m H, W n m H →
      ((Ite K a).stop n H ∧ Qd H) ∨ ((Ite K a).go n H ∧ ∃ Nx : Hp → Prop, (∀ H', Nx H' → ∃ m', m' < m ∧ W (n + 1) m' H') ∧ ∀ x H', (Ite K a).yld n H x H' → gTup K 2 (gCons (gName i) (gCons (gName j) gNil)) x (wipe σ [i, j]) H' fun σ2 H2 => wipe σ2 [i, j] = wipe σ [i, j] ∧ tt σ2 H2 fun b H3 =>
        if b = true then te σ2 H3 fun y H4 => ∃ acc, H4 D = some (.lst acc) ∧ acc.length < sizeLine ∧ Nx (upd H4 D (.lst (acc ++ [y]))) else Nx H3) := by
  refine ⟨fun n m H => m = ns.length - n ∧ n ≤ ns.length ∧ Same H1 H ∧ H D = some (.lst ((placesOf c 0 (ns.take n)).map fun k : Nat => V.int (k : Nat))), ⟨ns.length, by simp, Nat.zero_le _, same_new hD, upd_same⟩, ?_⟩
  rintro n m H ⟨rfl, hn, s, hd⟩
  have q := same_l s hS
  by_cases hlt : n < ns.length
  · have e1 : (ns.map V.int)[n]? = some (.int ns[n]) := by rw [List.getElem?_map, List.getElem?_eq_getElem hlt]; rfl
    refine .inr ⟨⟨_, _, q, e1⟩, fun H' => Same H1 H' ∧ H' D = some (.lst ((placesOf c 0 (ns.take (n + 1))).map fun k : Nat => V.int (k : Nat))), fun H' p' => ⟨ns.length - (n + 1), by omega, rfl, hlt, p'⟩, fun x H' y => ?_⟩
    obtain ⟨T, v, rfl, hT, rfl, hv⟩ := y
    have hv := hv _ q
    rw [e1] at hv
    have hv := Option.some.inj hv
    subst hv
    have s1 : Same H (upd H T (.tup [.int (n : Nat), .int ns[n]])) := same_new hT
    have hd1 := s1 _ _ hd
    have e2 : ns.take (n + 1) = ns.take n ++ [ns[n]] := take_succ' (List.getElem?_eq_getElem hlt)
    have e3 : (ns.take n).length = n := by rw [List.length_take]; omega
    refine ⟨T, _, rfl, SqT.of upd_same, rfl, _, _, rfl, _, _, rfl, rfl, wipe2 hij, ?_⟩
    refine test n ns[n] _ _ (s.trans s1) ?_
    refine ite2 (fun h => ?_) (fun h => ?_)
    · refine turn n ns[n] _ _ (s.trans s1) ⟨_, hd1, Evl.sz_lt ?_, same_mut (s.trans s1) hD, ?_⟩
      · have := placesOf_len c (ns.take n) 0
        rw [List.length_map]
        omega
      · rw [upd_same, e2, placesOf_app, h, if_pos rfl, e3, Nat.zero_add, List.map_append]
        rfl
    · refine ⟨s.trans s1, ?_⟩
      rw [hd1, e2, placesOf_app, if_neg h, List.append_nil]
  · have e : n = ns.length := by omega
    subst e
    rw [List.take_length] at hd
    exact .inl ⟨⟨_, q, by simp⟩, fin H s hd⟩
end Of

set_option Elab.async false
set_option linter.all false
set_option maxRecDepth 100000
set_option maxHeartbeats 4000000
/-! The program's own classes: how a line, an order and a book lie in the heap, and what a change of one part leaves. -/
namespace Of
open PySem PySem.Spec PyProof.Rows L2
/-! ### rules -/
theorem op_notInDT {X : Cx} (hu : X.A.units + 65 < cLine) : OpR X (compareOp .NotIn) (fun x y H Q => ∃ d ds, Dp X.K H x d ∧ Dp X.K H y (.tuple ds) ∧ SeqAt.shaped d = true ∧ SeqAt.shaped (.tuple ds) = true ∧ Q (.bl (!ds.any fun z => PyData.eqv z d)) H) := by
  intro pins s σ H x y v u Q I rx ry h
  obtain ⟨d, ds, hd, he, sd, se, q⟩ := h
  obtain ⟨as, r1⟩ := Dp.reads I d x v hd rx
  obtain ⟨bs, r2⟩ := Dp.reads I (.tuple ds) y u he ry
  exact SeqAt.notIn_tuple_reads r2 r1 (SeqAt.canLay_of_shaped se) (SeqAt.canLay_of_shaped sd) (room_in_shaped sd hu) ⟨.bl _, H, I, rfl, q⟩
def rNotInDT (K : PySem.W.Frag) : R2 := fun x y H Q => ∃ d ds, Dp K H x d ∧ Dp K H y (.tuple ds) ∧ SeqAt.shaped d = true ∧ SeqAt.shaped (.tuple ds) = true ∧ Q (.bl (!ds.any fun z => PyData.eqv z d)) H
theorem ko_notInDT {X : Cx} (K : PySem.W.Frag) (hu : X.A.units + 65 < cLine) (h : X.K = K := by rfl) : OpR X (compareOp .NotIn) (rNotInDT K) := h ▸ op_notInDT hu
theorem _root_.L2.Room.units65 {k : Nat} {A : Around} (r : Room k A) : A.units + 65 < cLine := by have := r.un; omega
theorem kc_all {X : Cx} (K : PySem.W.Frag) (hc : X.calm = true) (h : X.K = K := by rfl) : CallR X (.builtin "all") (fun xs H Q => ∃ (a : Addr) (bs : List Bool), xs = [.ref a] ∧ SqL K H a (bs.map V.bl) ∧ Q (.bl (bs.all id)) H) := h ▸ cr_all hc
/-- o.f = .. as a target among others -/
def gFld (K : PySem.W.Frag) (to : TE) (f : Str) : TG := fun v σ H Q => to σ H fun x H1 => ∃ a C dx fs, x = .ref a ∧ H1 a = some (.ins C dx fs) ∧ Cls K C ∧ NoAttr K C f ∧ fs.length < 1000 ∧ Q σ (upd H1 a (.ins C dx (putF f v fs)))
theorem pg_fld {X : Cx} {o : Expr} {f : Str} {pos : Pos} {to : TE} (ho : PE X o to) : PG X (.Attribute o f pos) (gFld X.K to f) := by
  refine ⟨fun pins s σ H v u Q I r h => ?_⟩
  rw [assign_Attribute]
  refine wpAny_bind (wpAny_holding (thn (ho.run pins s σ H _ I h) fun ov s1 ⟨x, H1, I1, rx, a, C, dx, fs, ex, ea, c, n, l, q⟩ => ?_))
  subst ex
  obtain rfl : ov = Value.ref a := rx
  refine wpAny_bind (wpAny_standAt (wpAny_bind (wpAny_holding (setattr_ok I1 ea c n l r fun s2 I2 => ?_))))
  exact wpAny_release ⟨σ, _, I2, q⟩
/-! ### an object made -/
structure MkC (P : Program) (w : World) (K : PySem.W.Frag) (mg : Str → Option Value) (base : Heap) (CX : CXT) (k : Nat) (C : Addr) (x : Str) (ps : List Str) (sp : Sp) : Prop where
  ex : ∃ f fd, Mk K C f ∧ FnOk P w K mg base CX k f fd ps sp ∧ Binds K fd ps []
  g : mg x = some (.ref C)
def tMkC (C : Addr) (sp : Sp) (E : XK) (t : TA) : TE := fun σ H Q => t σ H fun vs H1 => ∀ x dx, H1 x = none → H1 dx = none → dx ≠ x → sp (.ref x :: vs) (upd (upd H1 dx (.own x)) x (.ins C dx [])) (fun v H2 => v = .non ∧ Q (.ref x) H2) E
theorem pe_mkC {X : Cx} {CX : CXT} {k : Nat} {C : Addr} {x : Str} {ps : List Str} {sp : Sp} {E : XK} {p pos : Pos} {e : Expr} {es : List Expr} {t : TA} (M : MkC X.prog X.w X.K X.mg X.base CX k C x ps sp) (hr : Room (k + 1) X.A) (hx : Passes CX X E) (ha : PA X (e :: es) t)
    (hg : Gl X x := by rfl) (hdb : (x == ("__debug__" : Str)) = false := by decide) (he : starEach (e :: es) X.env = (false, eval e X.env) :: starEach es X.env := by rfl) (hpl : (backTo pos (starEach es X.env)).any (·.1) = false := by rfl) :
    PE X (.Call (.Name x p) (e :: es) [] pos) (tMkC C sp E t) := by
  obtain ⟨f, fd, mk, F, hb⟩ := M.ex
  refine ⟨fun pins s σ H Q I h => ?_⟩
  refine wpAny_Call_Name_kw (ld_glob I hg M.g ?_ hdb)
  refine PySem.W.callWith_K (h₀ := X.base) I.ok.mod.kin mk.kp (thn (ha.run pos pins s σ H _ I h) fun us s1 ⟨vs, H1, I1, r, q⟩ => ⟨I1.kIn, ?_⟩) he hpl
  exact run_make mk F hr hb .nil hx I1 r (by simp only [List.append_nil]; exact q)
/-! ### the classes of the refusals, made -/
structure ErrMk (K : PySem.W.Frag) (mg : Str → Option Value) (cl : Str → Addr) : Prop where
  g : ∀ n ∈ errNames, mg n = some (.ref (cl n))
  q : ∀ n ∈ errNames, PySem.W.excIn K (cl n) [.type "ValueError", .type "Exception", .type "BaseException", .type "object"] "ValueError.__new__" = true
  kp : ∀ n ∈ errNames, PySem.W.keepIn K (.ref (cl n)) = true
  sb : ∀ n ∈ errNames, PySem.W.subIn K (.ref (cl n)) (.type "BaseException") = some true
  ty : ∀ n ∈ errNames, PySem.W.typeIn K (.ref (cl n)) = some (.type "type")
theorem ErrMk.pmk {X : Cx} {cl : Str → Addr} (E : ErrMk X.K X.mg cl) (n : Str) (hn : n ∈ errNames) {m : Str} {j : Nat} {p p2 pos : Pos} (hg : Gl X n := by rfl) (hdb : (n == ("__debug__" : Str)) = false := by decide) :
    PMk X (.Call (.Name n p) [.Constant (.str m) j p2] [] pos) (fun _ H Q => Q (.ref (cl n)) none H) :=
  pmk_own PySem.F.excBase_ValueError (E.q n hn) (E.g n hn) (E.kp n hn) (raises_own (E.sb n hn) (E.ty n hn)) hg hdb
/-! ### what the written part says of the program's classes -/
abbrev lineNames : List Str := ["item", "ordered", "cents", "pack", "sent", "home", "again", "credited"]
abbrev orderNames : List Str := ["lines", "received", "changed", "_ahead"]
abbrev bookNames : List Str := ["_orders", "_deeds"]
structure PF (K : PySem.W.Frag) (CL CO CB : Addr) : Prop where
  cL : Cls K CL
  cO : Cls K CO
  cB : Cls K CB
  nL : ∀ f ∈ lineNames, NoAttr K CL f
  nO : ∀ f ∈ orderNames, NoAttr K CO f
  nB : ∀ f ∈ bookNames, NoAttr K CB f
def lnF (l : Ln) : List (Str × V) := [("item", .str l.item), ("ordered", .int l.pieces), ("cents", .int l.cents), ("pack", .int l.pack), ("sent", .int l.sent), ("home", .int l.home), ("again", .int l.again), ("credited", .int l.credited)]
/-- an order's parts -/
structure OA2 where
  a : Addr
  dx : Addr
  ls : Addr
  ch : Addr
  ah : Addr
  q : Addr
  lns : List Addr
/-- what stood ahead of a change -/
structure Ent where
  rc : Int
  ln : Option (Nat × Int × Int × Int × Int)
def Foot (o : OA2) (x : Addr) : Prop := x = o.a ∨ x = o.ls ∨ x = o.ch ∨ x = o.ah ∨ x ∈ o.lns
def odF (o : OA2) (p : Int) : List (Str × V) := [("lines", .ref o.ls), ("received", .int p), ("changed", .ref o.ch), ("_ahead", .ref o.ah)]
def EntAt (K : PySem.W.Frag) (H : Hp) (o : OA2) (v : V) (e : Ent) : Prop := ∃ t, v = .ref t ∧
  ((e.ln = none ∧ SqT K H t [.int e.rc, .non, .non]) ∨ ∃ j s h a c x u, e.ln = some (j, s, h, a, c) ∧ o.lns[j]? = some x ∧ SqT K H t [.int e.rc, .ref x, .ref u] ∧ SqT K H u [.int s, .int h, .int a, .int c])
structure OdAt2 (K : PySem.W.Frag) (CL CO : Addr) (H : Hp) (o : OA2) (m : Od) (es : List Ent) : Prop where
  hd : H o.a = some (.ins CO o.dx (odF o m.paid))
  hl : H o.ls = some (.lst (o.lns.map V.ref))
  len : o.lns.length = m.lines.length
  ln : ∀ (i : Nat) x l, o.lns[i]? = some x → m.lines[i]? = some l → ∃ dx, H x = some (.ins CL dx (lnF l))
  hc : ∃ cs, H o.ch = some (.lst cs) ∧ DpAll K H cs (m.rows.map rowD)
  ha : ∃ as, H o.ah = some (.lst as) ∧ Paired (EntAt K H o) as es
  nd : (o.a :: o.ls :: o.ch :: o.ah :: o.lns).Nodup
/-! ### tuples stay -/
/-- tuples stay what they are -/
def TupK (H H' : Hp) : Prop := ∀ a o, TupO o → H a = some o → H' a = some o
theorem TupK.trans {H H1 H2 : Hp} (a : TupK H H1) (b : TupK H1 H2) : TupK H H2 := fun x o t e => b x o t (a x o t e)
theorem TupK.same {H H' : Hp} (s : Same H H') : TupK H H' := fun x o _ e => s x o e
theorem Keep.tupK {F : Addr → Prop} {H H' : Hp} (k : Keep F H H') : TupK H H' := fun _ _ t e => k.tups t e
theorem tupK_upd {H : Hp} {x : Addr} {u w : HO} (h : H x = some u) (n : ¬ TupO u) : TupK H (upd H x w) := fun a o t e => by
  by_cases z : a = x
  · rw [z, h] at e
    rw [← Option.some.inj e] at t
    exact absurd t n
  · rw [upd_ne z]; exact e
theorem no_lst {xs : List V} : ¬ TupO (.lst xs) := fun h => tupO_lst h
theorem no_ins {C dx : Addr} {fs : List (Str × V)} : ¬ TupO (.ins C dx fs) := fun h => by
  obtain ⟨xs, h | ⟨t, h⟩⟩ := h <;> cases h
theorem no_own {x : Addr} : ¬ TupO (.own x) := fun h => by
  obtain ⟨xs, h | ⟨t, h⟩⟩ := h <;> cases h
section
variable {K : PySem.W.Frag} {H H' : Hp} {CL CO CB : Addr} {o : OA2} {m : Od} {es : List Ent}
theorem SqT.tupK {a : Addr} {xs : List V} (t : TupK H H') (h : SqT K H a xs) : SqT K H' a xs := by
  rcases h with (h | ⟨o, h⟩) | h
  · exact .inl (.inl (t _ _ ⟨_, .inl rfl⟩ h))
  · exact .inl (.inr ⟨o, t _ _ ⟨_, .inr ⟨o, rfl⟩⟩ h⟩)
  · exact .inr h
theorem FlatT.tupK {v : V} {d : PyData} (f : FlatT d) (t : TupK H H') (dv : Dp K H v d) : Dp K H' v d := by
  obtain ⟨ps, rfl, hl, h⟩ := f
  obtain ⟨a, xs, rfl, ha, hx⟩ := dp_tuple dv
  refine .tup (SqT.tupK t ha) ?_
  clear ha dv hl
  induction ps generalizing xs with
  | nil => cases hx; exact .nil
  | cons p r ih =>
    cases hx with
    | cons h1 h2 =>
      refine .cons ?_ (ih (fun p hp => h p (.tail _ hp)) _ h2)
      rcases h p (.head _) with ⟨z, rfl, _⟩ | ⟨i, rfl⟩
      · rw [dp_str h1]; exact .str _
      · rw [dp_int h1]; exact .int _
theorem flat_tupK (t : TupK H H') : ∀ {xs : List V} {ds : List PyData}, (∀ d ∈ ds, FlatT d) → DpAll K H xs ds → DpAll K H' xs ds
  | _, _, _, .nil => .nil
  | _, _, h, .cons h1 h2 => .cons ((h _ (.head _)).tupK t h1) (flat_tupK t (fun d hd => h d (.tail _ hd)) h2)
theorem FlatT.row {r : Str × Int} (h : PyData.strOk r.1 = true) : FlatT (rowD r) := ⟨_, rfl, by show 2 ≤ 100; decide, fun p hp => by
  simp only [List.mem_cons, List.not_mem_nil, or_false] at hp
  rcases hp with rfl | rfl
  · exact .inl ⟨_, rfl, h⟩
  · exact .inr ⟨_, rfl⟩⟩
theorem rows_flat {rs : List (Str × Int)} (h : ∀ r ∈ rs, PyData.strOk r.1 = true) : ∀ d ∈ rs.map rowD, FlatT d := fun d hd => by
  obtain ⟨r, hr, rfl⟩ := List.mem_map.mp hd
  exact .row (h r hr)
theorem FlatT.line {t : LineT} (h : PyData.strOk t.item = true) : FlatT (lineD t) := ⟨_, rfl, by show 4 ≤ 100; decide, fun p hp => by
  simp only [List.mem_cons, List.not_mem_nil, or_false] at hp
  rcases hp with rfl | rfl | rfl | rfl
  · exact .inl ⟨_, rfl, h⟩
  · exact .inr ⟨_, rfl⟩
  · exact .inr ⟨_, rfl⟩
  · exact .inr ⟨_, rfl⟩⟩
theorem EntAt.tupK {v : V} {e : Ent} (t : TupK H H') (h : EntAt K H o v e) : EntAt K H' o v e := by
  obtain ⟨p, rfl, h⟩ := h
  refine ⟨p, rfl, h.imp (fun ⟨h1, h2⟩ => ⟨h1, SqT.tupK t h2⟩) fun ⟨j, s, h, a, c, x, u, h1, h2, h3, h4⟩ => ⟨j, s, h, a, c, x, u, h1, h2, SqT.tupK t h3, SqT.tupK t h4⟩⟩
theorem Paired.imp {α β : Type} {R S : α → β → Prop} (f : ∀ x y, R x y → S x y) : ∀ {xs : List α} {ys : List β}, Paired R xs ys → Paired S xs ys
  | _, _, .nil => .nil
  | _, _, .cons h r => .cons (f _ _ h) (Paired.imp f r)
theorem paired_append {α β : Type} {R : α → β → Prop} : ∀ {xs xs' : List α} {ys ys' : List β}, Paired R xs ys → Paired R xs' ys' → Paired R (xs ++ xs') (ys ++ ys')
  | _, _, _, _, .nil, h => h
  | _, _, _, _, .cons a r, h => .cons a (paired_append r h)
/-- what stays of an order -/
theorem OdAt2.frame (O : OdAt2 K CL CO H o m es) (rw_ : ∀ r ∈ m.rows, PyData.strOk r.1 = true) (f : ∀ x u, Foot o x → H x = some u → H' x = some u) (t : TupK H H') : OdAt2 K CL CO H' o m es := by
  obtain ⟨cs, c1, c2⟩ := O.hc
  obtain ⟨as, a1, a2⟩ := O.ha
  exact ⟨f _ _ (.inl rfl) O.hd, f _ _ (.inr (.inl rfl)) O.hl, O.len, fun i x l hx hl => by
    obtain ⟨dx, e⟩ := O.ln i x l hx hl
    exact ⟨dx, f _ _ (.inr (.inr (.inr (.inr (List.mem_of_getElem? hx))))) e⟩, ⟨cs, f _ _ (.inr (.inr (.inl rfl))) c1, flat_tupK t (rows_flat rw_) c2⟩, ⟨as, f _ _ (.inr (.inr (.inr (.inl rfl)))) a1, Paired.imp (fun _ _ h => h.tupK t) a2⟩, O.nd⟩
theorem nd_of (O : OdAt2 K CL CO H o m es) : o.a ≠ o.ls ∧ o.a ≠ o.ch ∧ o.a ≠ o.ah ∧ o.a ∉ o.lns ∧ o.ls ≠ o.ch ∧ o.ls ≠ o.ah ∧ o.ls ∉ o.lns ∧ o.ch ≠ o.ah ∧ o.ch ∉ o.lns ∧ o.ah ∉ o.lns ∧ o.lns.Nodup := by
  have := O.nd
  simp only [List.nodup_cons, List.mem_cons, not_or] at this
  obtain ⟨⟨a1, a2, a3, a4⟩, ⟨b1, b2, b3⟩, ⟨c1, c2⟩, d1, e1⟩ := this
  exact ⟨a1, a2, a3, a4, b1, b2, b3, c1, c2, d1, e1⟩
theorem OdAt2.setLine (O : OdAt2 K CL CO H o m es) (rw_ : ∀ r ∈ m.rows, PyData.strOk r.1 = true) {j : Nat} {x dx : Addr} {l : Ln} {fs : List (Str × V)} (hx : o.lns[j]? = some x) (h : H x = some (.ins CL dx fs)) : OdAt2 K CL CO (upd H x (.ins CL dx (lnF l))) o (setLine m j l) es := by
  obtain ⟨a1, a2, a3, a4, b1, b2, b3, c1, c2, d1, e1⟩ := nd_of O
  have mx := List.mem_of_getElem? hx
  have t : TupK H (upd H x (.ins CL dx (lnF l))) := tupK_upd h no_ins
  have nx : ∀ {y : Addr}, y ∉ o.lns → y ≠ x := fun h e => h (by rw [e]; exact mx)
  obtain ⟨cs, c3, c4⟩ := O.hc
  obtain ⟨as, a5, a6⟩ := O.ha
  refine ⟨by rw [upd_ne (nx a4)]; exact O.hd, by rw [upd_ne (nx b3)]; exact O.hl, by rw [O.len]; exact (List.length_set ..).symm, fun i y l' hy hl => ?_, ⟨cs, by rw [upd_ne (nx c2)]; exact c3, flat_tupK t (rows_flat rw_) c4⟩, ⟨as, by rw [upd_ne (nx d1)]; exact a5, Paired.imp (fun _ _ h => h.tupK t) a6⟩, O.nd⟩
  have hl : (m.lines.set j l)[i]? = some l' := hl
  by_cases e : j = i
  · subst e
    rw [hx] at hy; cases hy
    have hj : j < m.lines.length := by rw [← O.len]; exact (List.getElem?_eq_some_iff.mp hx).1
    rw [List.getElem?_set_self hj] at hl; cases hl
    exact ⟨dx, upd_same⟩
  · rw [List.getElem?_set_ne e] at hl
    have ne : y ≠ x := fun z => by
      subst z
      obtain ⟨h1, h2⟩ := List.getElem?_eq_some_iff.mp hx
      obtain ⟨h3, h4⟩ := List.getElem?_eq_some_iff.mp hy
      have q1 := List.Nodup.idxOf_getElem e1 j h1
      have q2 := List.Nodup.idxOf_getElem e1 i h3
      rw [h2] at q1
      rw [h4] at q2
      exact e (q1.symm.trans q2)
    rw [upd_ne ne]
    exact O.ln i y l' hy hl
theorem OdAt2.setPaid (O : OdAt2 K CL CO H o m es) (rw_ : ∀ r ∈ m.rows, PyData.strOk r.1 = true) {n : Int} : OdAt2 K CL CO (upd H o.a (.ins CO o.dx (odF o n))) o { m with paid := n } es := by
  obtain ⟨a1, a2, a3, a4, _⟩ := nd_of O
  have t : TupK H (upd H o.a (.ins CO o.dx (odF o n))) := tupK_upd O.hd no_ins
  obtain ⟨cs, c3, c4⟩ := O.hc
  obtain ⟨as, a5, a6⟩ := O.ha
  exact ⟨upd_same, by rw [upd_ne a1.symm]; exact O.hl, O.len, fun i y l hy hl => by
    rw [upd_ne fun e => a4 (by rw [← e]; exact List.mem_of_getElem? hy)]
    exact O.ln i y l hy hl, ⟨cs, by rw [upd_ne a2.symm]; exact c3, flat_tupK t (rows_flat rw_) c4⟩, ⟨as, by rw [upd_ne a3.symm]; exact a5, Paired.imp (fun _ _ h => h.tupK t) a6⟩, O.nd⟩
theorem OdAt2.chg (O : OdAt2 K CL CO H o m es) (rw_ : ∀ r ∈ m.rows, PyData.strOk r.1 = true) {cs' : List V} {rs : List (Str × Int)} (h : ∀ H', TupK H H' → DpAll K H' cs' (rs.map rowD)) : OdAt2 K CL CO (upd H o.ch (.lst cs')) o { m with rows := rs } es := by
  obtain ⟨a1, a2, a3, a4, b1, b2, b3, c1, c2, d1, e1⟩ := nd_of O
  obtain ⟨cs, c3, c4⟩ := O.hc
  have t : TupK H (upd H o.ch (.lst cs')) := tupK_upd c3 no_lst
  obtain ⟨as, a5, a6⟩ := O.ha
  exact ⟨by rw [upd_ne a2]; exact O.hd, by rw [upd_ne b1]; exact O.hl, O.len, fun i y l hy hl => by
    rw [upd_ne fun e => c2 (by rw [← e]; exact List.mem_of_getElem? hy)]
    exact O.ln i y l hy hl, ⟨cs', upd_same, h _ t⟩, ⟨as, by rw [upd_ne c1.symm]; exact a5, Paired.imp (fun _ _ h => h.tupK t) a6⟩, O.nd⟩
theorem OdAt2.ahd (O : OdAt2 K CL CO H o m es) (rw_ : ∀ r ∈ m.rows, PyData.strOk r.1 = true) {as' : List V} {es' : List Ent} (h : ∀ H', TupK H H' → Paired (EntAt K H' o) as' es') : OdAt2 K CL CO (upd H o.ah (.lst as')) o m es' := by
  obtain ⟨a1, a2, a3, a4, b1, b2, b3, c1, c2, d1, e1⟩ := nd_of O
  obtain ⟨cs, c3, c4⟩ := O.hc
  obtain ⟨as, a5, a6⟩ := O.ha
  have t : TupK H (upd H o.ah (.lst as')) := tupK_upd a5 no_lst
  exact ⟨by rw [upd_ne a3]; exact O.hd, by rw [upd_ne b2]; exact O.hl, O.len, fun i y l hy hl => by
    rw [upd_ne fun e => d1 (by rw [← e]; exact List.mem_of_getElem? hy)]
    exact O.ln i y l hy hl, ⟨cs, by rw [upd_ne c1]; exact c3, flat_tupK t (rows_flat rw_) c4⟩, ⟨as', upd_same, h _ t⟩, O.nd⟩
theorem Keep.upd1 {F : Addr → Prop} {x : Addr} {u w : HO} (h : F x) (e : H x = some u) (n1 : ¬ TupO u) (n2 : ¬ TupO w) : Keep F H (upd H x w) := fun a o e2 => by
  by_cases z : a = x
  · subst z
    rw [e] at e2
    have e2 := Option.some.inj e2
    subst e2
    exact ⟨fun n => absurd h n, _, upd_same, fun z => z.elim (fun z => absurd z n1) fun z => absurd z n2⟩
  · rw [upd_ne z]
    exact ⟨fun _ => e2, _, e2, fun _ => rfl⟩
end
/-! ### methods of the text -/
structure MAt (K : PySem.W.Frag) (C : Addr) (m q : Str) (st : Stmt) (ps : List Str) : Prop where
  ex : ∃ f fd, Meth K C m f ∧ Fun K m q st f fd ∧ Binds K fd ps []
structure IAt (K : PySem.W.Frag) (C : Addr) (q : Str) (st : Stmt) (ps : List Str) : Prop where
  ex : ∃ f fd, Mk K C f ∧ Fun K "__init__" q st f fd ∧ Binds K fd ps []
theorem mAt_mk {K : PySem.W.Frag} {C : Addr} {m q : Str} {st : Stmt} {ps : List Str} {f : Addr} {oc kV doc pm cd ct : Value} {od an : Option Addr} {sl : Array (Option Value)}
    (a : PySem.W.findIn K (.ref C) m = some (some (.ref f))) (i : PySem.W.isFn K (.ref f) = true) (l : K.lookup f = some ⟨oc, od, .func (PySem.W.fnOf m q (defArgs st) (defBody st) (defScope st) .none kV doc pm an cd ct), sl⟩) (c : PySem.W.codeIn K cd q = true) (k : PySem.W.keepIn K (.ref f) = true)
    (h : ∀ (kV doc pm : Value) (an : Option Addr) (cdv ct : Value) (us : List Value), us.length = ps.length → bindArgs (PySem.W.fnOf m q (defArgs st) (defBody st) (defScope st) .none kV doc pm an cdv ct) ⟨us, []⟩ = pure (ps.zip us)) : MAt K C m q st ps :=
  have F := fun_mk (st := st) l c k
  ⟨f, _, ⟨a, i, k⟩, F, F.binds h⟩
theorem iAt_mk {K : PySem.W.Frag} {C : Addr} {q : Str} {st : Stmt} {ps : List Str} {f : Addr} {oc kV doc pm cd ct : Value} {od an : Option Addr} {sl : Array (Option Value)}
    (a : PySem.W.findIn K (.ref C) "__init__" = some (some (.ref f))) (i : PySem.W.isFn K (.ref f) = true) (l : K.lookup f = some ⟨oc, od, .func (PySem.W.fnOf "__init__" q (defArgs st) (defBody st) (defScope st) .none kV doc pm an cd ct), sl⟩) (c : PySem.W.codeIn K cd q = true) (k : PySem.W.keepIn K (.ref f) = true)
    (mk : PySem.W.makesIn K C = true) (kc : PySem.W.keepIn K (.ref C) = true)
    (h : ∀ (kV doc pm : Value) (an : Option Addr) (cdv ct : Value) (us : List Value), us.length = ps.length → bindArgs (PySem.W.fnOf "__init__" q (defArgs st) (defBody st) (defScope st) .none kV doc pm an cdv ct) ⟨us, []⟩ = pure (ps.zip us)) : IAt K C q st ps :=
  have F := fun_mk (st := st) l c k
  ⟨f, _, ⟨mk, a, i, kc⟩, F, F.binds h⟩
section
variable {P : Program} {w : World} {K : PySem.W.Frag} {mg : Str → Option Value} {base : Heap}
theorem mcal_of {C : Addr} {m q : Str} {st : Stmt} {N ps : List Str} {k : Nat} {sp : Sp} (c : Cls K C) (D : MAt K C m q st ps) (S : FnScope N ps (defScope st)) (len : ∀ vs H Q E, sp vs H Q E → vs.length = ps.length)
    (hbody : ∀ (f : Addr) (cdv : Value) (A : Around) (outer : List Env) (s : Shared) (H : Hp) (vs : List V) (Q : VK) (E : XK), Room k (A.deeper (envOfC q (defScope st) s.heap.objs.size f cdv)) → sp vs H Q E →
      ∃ t, PSs (cxOf CX0 P w K mg base N q (defScope st) f cdv A outer s H E).nox (defBody st) t ∧ t { nx := fun _ H' => Q .non H', rt := Q } (start N vs) H) : MCal P w K mg base CX0 (k + 1) C m ps sp := by
  obtain ⟨f, fd, M, F, b⟩ := D.ex
  exact ⟨c, f, fd, M, F.ok S len fun cdv A outer s H vs Q E hr h => hbody f cdv A outer s H vs Q E hr h, b⟩
theorem mcal_ofX {C : Addr} {m q : Str} {st : Stmt} {N ps : List Str} {k : Nat} {sp : Sp} (c : Cls K C) (D : MAt K C m q st ps) (S : FnScope N ps (defScope st)) (len : ∀ vs H Q E, sp vs H Q E → vs.length = ps.length)
    (hbody : ∀ (f : Addr) (cdv : Value) (A : Around) (outer : List Env) (s : Shared) (H : Hp) (vs : List V) (Q : VK) (E : XK), Room k (A.deeper (envOfC q (defScope st) s.heap.objs.size f cdv)) → sp vs H Q E →
      ∃ t, PSs (cxOf (L2.CX P w) P w K mg base N q (defScope st) f cdv A outer s H E) (defBody st) t ∧ t { nx := fun _ H' => Q .non H', rt := Q } (start N vs) H) : MCal P w K mg base (L2.CX P w) (k + 1) C m ps sp := by
  obtain ⟨f, fd, M, F, b⟩ := D.ex
  exact ⟨c, f, fd, M, F.okX S len fun cdv A outer s H vs Q E hr h => hbody f cdv A outer s H vs Q E hr h, b⟩
theorem mkc_of {C : Addr} {x q : Str} {st : Stmt} {N ps : List Str} {k : Nat} {sp : Sp} (g : mg x = some (.ref C)) (D : IAt K C q st ps) (S : FnScope N ps (defScope st)) (len : ∀ vs H Q E, sp vs H Q E → vs.length = ps.length)
    (hbody : ∀ (f : Addr) (cdv : Value) (A : Around) (outer : List Env) (s : Shared) (H : Hp) (vs : List V) (Q : VK) (E : XK), Room k (A.deeper (envOfC q (defScope st) s.heap.objs.size f cdv)) → sp vs H Q E →
      ∃ t, PSs (cxOf CX0 P w K mg base N q (defScope st) f cdv A outer s H E).nox (defBody st) t ∧ t { nx := fun _ H' => Q .non H', rt := Q } (start N vs) H) : MkC P w K mg base CX0 (k + 1) C x ps sp := by
  obtain ⟨f, fd, M, F, b⟩ := D.ex
  exact ⟨⟨f, fd, M, F.ok S len fun cdv A outer s H vs Q E hr h => hbody f cdv A outer s H vs Q E hr h, b⟩, g⟩
theorem cal_ofX {x : Str} {st : Stmt} {N ps : List Str} {k : Nat} {sp : Sp} (D : DefAt K mg x st ps) (S : FnScope N ps (defScope st)) (len : ∀ vs H Q E, sp vs H Q E → vs.length = ps.length)
    (hbody : ∀ (f : Addr) (cdv : Value) (A : Around) (outer : List Env) (s : Shared) (H : Hp) (vs : List V) (Q : VK) (E : XK), Room k (A.deeper (envOfC x (defScope st) s.heap.objs.size f cdv)) → sp vs H Q E →
      ∃ t, PSs (cxOf (L2.CX P w) P w K mg base N x (defScope st) f cdv A outer s H E) (defBody st) t ∧ t { nx := fun _ H' => Q .non H', rt := Q } (start N vs) H) : Cal P w K mg base (L2.CX P w) (k + 1) x ps sp := by
  obtain ⟨f, fd, F, hm, hb⟩ := D.ex
  exact ⟨f, fd, F.okX S len fun cdv A outer s H vs Q E hr h => hbody f cdv A outer s H vs Q E hr h, hm, F.kp, hb⟩
theorem MCal.bcal {k : Nat} {C : Addr} {m : Str} {ps : List Str} {sp : Sp} (c : MCal P w K mg base (L2.CX P w) k C m ps sp) (h : m ∈ bookMs) : BCal P w K mg base k C m ps sp := ⟨c.cls, c.ex, h⟩
theorem PF.cls {CL CO CB : Addr} (T : PF K CL CO CB) : Cls K CL ∧ Cls K CO ∧ Cls K CB := ⟨T.cL, T.cO, T.cB⟩
end
/-! ### constants of the text; a text gone through -/
theorem pe_gint {X : Cx} {x : Str} {n : Int} {pos : Pos} (h : ∃ t, X.mg x = some (.int n t)) (hg : Gl X x := by rfl) (hd : (x == ("__debug__" : Str)) = false := by decide) : PE X (.Name x pos) (tC (.int n)) := by
  obtain ⟨t, h⟩ := h
  exact pe_glob hg h ⟨t, rfl⟩ hd
structure Consts (mg : Str → Option Value) : Prop where
  k_MOST_LINES : ∃ t, mg "_MOST_LINES" = some (.int 20 t)
  k_MOST_LETTERS : ∃ t, mg "_MOST_LETTERS" = some (.int 12 t)
  k_MOST_PIECES : ∃ t, mg "_MOST_PIECES" = some (.int 1000000 t)
  k_MOST_CENTS : ∃ t, mg "_MOST_CENTS" = some (.int 1000000000 t)
  k_MOST_PACK : ∃ t, mg "_MOST_PACK" = some (.int 1000 t)
  k_MOST_ORDERS : ∃ t, mg "_MOST_ORDERS" = some (.int 40 t)
def deedsT : List PyData := [.tuple [.str "order", .int 2], .tuple [.str "deliver", .int 4], .tuple [.str "back", .int 4], .tuple [.str "swap", .int 4], .tuple [.str "credit", .int 4], .tuple [.str "pay", .int 3], .tuple [.str "refund", .int 3], .tuple [.str "move", .int 4]]
structure Tups (K : PySem.W.Frag) (mg : Str → Option Value) (aD aF : Addr) : Prop where
  gD : mg "DEEDS" = some (.ref aD)
  gF : mg "_OF_A_LINE" = some (.ref aF)
  dD : ∀ H, Dp K H (.ref aD) (.tuple deedsT)
  dF : ∀ H, SqT K H aF [.str "deliver", .str "back", .str "swap", .str "credit"]
theorem lt_sign {c d : Nat} : (([c] : List Nat) < [d]) ↔ c < d := by
  rw [List.cons_lt_cons_iff]
  constructor
  · rintro (h | ⟨_, h⟩)
    · exact h
    · exact absurd h (List.not_lt_nil _)
  · exact fun h => .inl h
theorem le_sign {c d : Nat} : (!decide (([c] : List Nat) < [d])) = decide (d ≤ c) := by
  by_cases h : d ≤ c
  · rw [decide_eq_true h, decide_eq_false fun z => by have := lt_sign.mp z; omega]; rfl
  · rw [decide_eq_false h, decide_eq_true (lt_sign.mpr (by omega))]; rfl
/-- [test for c in text] -/
theorem lcS_bool {te : TE} {σ : L2.St} {j : Nat} {x : Str} {D : Addr} {H1 : Hp} {Qd : Hp → Prop} (c : Nat → Bool) (hz : x.length ≤ 100000) (hD : H1 D = none)
    (turn : ∀ (k : Nat) (H : Hp) (R : VK), Same H1 H → R (.bl (c k)) H → te ((wipe σ [j]).set j (some (.str ⟨#[k]⟩))) H R)
    (fin : ∀ H', Same H1 H' → H' D = some (.lst ((x.cps.toList.map c).map V.bl)) → Qd H') :
    ∃ W : Nat → Nat → Hp → Prop, (∃ m, W 0 m (upd H1 D (.lst []))) ∧ ∀ i m H, W i m H →
      ((Its x).stop i H ∧ Qd H) ∨ ((Its x).go i H ∧ ∃ Nx : Hp → Prop, (∀ H', Nx H' → ∃ m', m' < m ∧ W (i + 1) m' H') ∧ ∀ v H', (Its x).yld i H v H' → gName j v (wipe σ [j]) H' fun σ2 H2 => wipe σ2 [j] = wipe σ [j] ∧ tYes σ2 H2 fun b H3 =>
        if b = true then te σ2 H3 fun y H4 => ∃ acc, H4 D = some (.lst acc) ∧ acc.length < sizeLine ∧ Nx (upd H4 D (.lst (acc ++ [y]))) else Nx H3) := by
  have hl := len_cps x
  have hc : x.cps.size = x.cps.toList.length := by simp
  refine ⟨fun i m H => m = x.cps.toList.length - i ∧ i ≤ x.cps.toList.length ∧ Same H1 H ∧ H D = some (.lst (((x.cps.toList.take i).map c).map V.bl)), ⟨_, rfl, Nat.zero_le _, same_new hD, upd_same⟩, ?_⟩
  rintro i m H ⟨rfl, hi, s, hd⟩
  by_cases hlt : i < x.cps.toList.length
  · refine .inr ⟨by show i < x.cps.size; omega, fun H' => Same H1 H' ∧ H' D = some (.lst (((x.cps.toList.take (i + 1)).map c).map V.bl)), fun H' p' => ⟨x.cps.toList.length - (i + 1), by omega, rfl, hlt, p'⟩, fun v H' y => ?_⟩
    obtain ⟨rfl, k, hk, rfl⟩ := y
    have e2 : x.cps.toList[i]? = some k := by simpa using hk
    refine ⟨wipe1, turn k _ _ s ⟨_, hd, Evl.sz_lt ?_, same_mut s hD, ?_⟩⟩
    · rw [List.length_map, List.length_map, List.length_take]; omega
    · rw [upd_same, take_succ' e2, List.map_append, List.map_append]
      rfl
  · have e : i = x.cps.toList.length := by omega
    subst e
    rw [List.take_length] at hd
    exact .inl ⟨by show x.cps.size ≤ _; omega, fin H s hd⟩
theorem words_ne : ("order" : Str) ≠ "deliver" ∧ ("order" : Str) ≠ "back" ∧ ("order" : Str) ≠ "swap" ∧ ("order" : Str) ≠ "credit" ∧ ("order" : Str) ≠ "pay" ∧ ("order" : Str) ≠ "refund" ∧ ("order" : Str) ≠ "move" ∧ ("deliver" : Str) ≠ "order" ∧ ("deliver" : Str) ≠ "back" ∧ ("deliver" : Str) ≠ "swap" ∧ ("deliver" : Str) ≠ "credit" ∧ ("deliver" : Str) ≠ "pay" ∧ ("deliver" : Str) ≠ "refund" ∧ ("deliver" : Str) ≠ "move" ∧ ("back" : Str) ≠ "order" ∧ ("back" : Str) ≠ "deliver" ∧ ("back" : Str) ≠ "swap" ∧ ("back" : Str) ≠ "credit" ∧ ("back" : Str) ≠ "pay" ∧ ("back" : Str) ≠ "refund" ∧ ("back" : Str) ≠ "move" ∧ ("swap" : Str) ≠ "order" ∧ ("swap" : Str) ≠ "deliver" ∧ ("swap" : Str) ≠ "back" ∧ ("swap" : Str) ≠ "credit" ∧ ("swap" : Str) ≠ "pay" ∧ ("swap" : Str) ≠ "refund" ∧ ("swap" : Str) ≠ "move" ∧ ("credit" : Str) ≠ "order" ∧ ("credit" : Str) ≠ "deliver" ∧ ("credit" : Str) ≠ "back" ∧ ("credit" : Str) ≠ "swap" ∧ ("credit" : Str) ≠ "pay" ∧ ("credit" : Str) ≠ "refund" ∧ ("credit" : Str) ≠ "move" ∧ ("pay" : Str) ≠ "order" ∧ ("pay" : Str) ≠ "deliver" ∧ ("pay" : Str) ≠ "back" ∧ ("pay" : Str) ≠ "swap" ∧ ("pay" : Str) ≠ "credit" ∧ ("pay" : Str) ≠ "refund" ∧ ("pay" : Str) ≠ "move" ∧ ("refund" : Str) ≠ "order" ∧ ("refund" : Str) ≠ "deliver" ∧ ("refund" : Str) ≠ "back" ∧ ("refund" : Str) ≠ "swap" ∧ ("refund" : Str) ≠ "credit" ∧ ("refund" : Str) ≠ "pay" ∧ ("refund" : Str) ≠ "move" ∧ ("move" : Str) ≠ "order" ∧ ("move" : Str) ≠ "deliver" ∧ ("move" : Str) ≠ "back" ∧ ("move" : Str) ≠ "swap" ∧ ("move" : Str) ≠ "credit" ∧ ("move" : Str) ≠ "pay" ∧ ("move" : Str) ≠ "refund" := by
  repeat' apply And.intro
  all_goals decide +kernel
theorem eqv_pair {x y : Str} {i j : Int} : PyData.eqv (.tuple [.str x, .int i]) (.tuple [.str y, .int j]) = (decide (x = y) && decide (i = j)) := by
  simp only [PyData.eqv, PyData.eqvAll]
  by_cases h : x = y
  · subst h
    by_cases g : i = j
    · subst g; simp
    · simp [g]
  · simp [h]
theorem deeds_any {x : Str} {n : Nat} : (deedsT.any fun z => PyData.eqv z (.tuple [.str x, .int (n : Int)])) = decide (partsOf x = some n) := by
  unfold deedsT
  simp only [List.any_cons, List.any_nil, eqv_pair]
  have W := words_ne
  have c2 : decide ((2 : Int) = (n : Int)) = decide (some 2 = some n) := decide_eq_decide.mpr ⟨fun h => congrArg some (by omega), fun h => by have := Option.some.inj h; omega⟩
  have c3 : decide ((3 : Int) = (n : Int)) = decide (some 3 = some n) := decide_eq_decide.mpr ⟨fun h => congrArg some (by omega), fun h => by have := Option.some.inj h; omega⟩
  have c4 : decide ((4 : Int) = (n : Int)) = decide (some 4 = some n) := decide_eq_decide.mpr ⟨fun h => congrArg some (by omega), fun h => by have := Option.some.inj h; omega⟩
  rw [c2, c3, c4]
  unfold partsOf
  by_cases h0 : x = "order"
  · subst h0
    simp [W]
  by_cases h1 : x = "deliver"
  · subst h1
    simp [W]
  by_cases h2 : x = "back"
  · subst h2
    simp [W]
  by_cases h3 : x = "swap"
  · subst h3
    simp [W]
  by_cases h4 : x = "credit"
  · subst h4
    simp [W]
  by_cases h5 : x = "pay"
  · subst h5
    simp [W]
  by_cases h6 : x = "refund"
  · subst h6
    simp [W]
  by_cases h7 : x = "move"
  · subst h7
    simp [W]
  have e : ∀ y : Str, x ≠ y → decide (y = x) = false := fun y h => decide_eq_false fun z => h z.symm
  rw [e _ h0, e _ h1, e _ h2, e _ h3, e _ h4, e _ h5, e _ h6, e _ h7]
  rw [if_neg h0, if_neg (by simp only [not_or]; exact ⟨h5, h6⟩), if_neg (by simp only [not_or]; exact ⟨h1, h2, h3, h4, h7⟩)]
  rfl
/-! ### what the top has written, gathered -/
def clOf (a : List Addr) : Str → Addr := fun n => ((errNames.zip a).lookup n).getD 0
theorem exm_mk {K : PySem.W.Frag} {C D : Addr} {r : Bool} (b : PySem.W.subIn K (.ref D) (.type "BaseException") = some true) (i : PySem.W.isClsIn K D = true) (t : PySem.W.typeIn K (.ref D) = some (.type "type")) (s : PySem.W.subIn K (.ref C) (.ref D) = some r) : PySem.W.exmOne K (.ref C) (.ref D) = some r := by
  unfold PySem.W.isClsIn at i
  have e : PySem.W.kitCls K (.ref C) (.ref D) = if ((PySem.W.clsIn K D).isSome && PySem.W.typeIn K (.ref D) == some (.type "type")) = true then PySem.W.subIn K (.ref C) (.ref D) else none := rfl
  unfold PySem.W.exmOne
  rw [b, e, i, t]
  exact s
theorem sz8 {n : Nat} (h : decide (n ≤ 100000) = true := by rfl) : n ≤ sizeLine := Evl.sz_of (of_decide_eq_true h)
theorem pair_dp {K : PySem.W.Frag} {a : Addr} {o : Option Addr} {x : Str} {i : Int} {u v : Tok} {n : Nat} {sl : Array (Option Value)} {H : Hp} (l : K.lookup a = some ⟨.type "tuple", o, .seq #[.str x u, .int i v] n, sl⟩) : Dp K H (.ref a) (.tuple [.str x, .int i]) :=
  .tup (xs := [.str x, .int i]) (.inr ⟨_, _, _, l, rfl, rfl, sz8, .cons ⟨_, rfl⟩ (.cons ⟨_, rfl⟩ .nil)⟩) (.cons (.str _) (.cons (.int _) .nil))
theorem deeds_dp {K : PySem.W.Frag} {a a0 a1 a2 a3 a4 a5 a6 a7 : Addr} {o o0 o1 o2 o3 o4 o5 o6 o7 : Option Addr} {n n0 n1 n2 n3 n4 n5 n6 n7 : Nat} {s s0 s1 s2 s3 s4 s5 s6 s7 : Array (Option Value)} {u0 v0 u1 v1 u2 v2 u3 v3 u4 v4 u5 v5 u6 v6 u7 v7 : Tok} {H : Hp}
    (l : K.lookup a = some ⟨.type "tuple", o, .seq #[.ref a0, .ref a1, .ref a2, .ref a3, .ref a4, .ref a5, .ref a6, .ref a7] n, s⟩)
    (l0 : K.lookup a0 = some ⟨.type "tuple", o0, .seq #[.str "order" u0, .int 2 v0] n0, s0⟩) (l1 : K.lookup a1 = some ⟨.type "tuple", o1, .seq #[.str "deliver" u1, .int 4 v1] n1, s1⟩) (l2 : K.lookup a2 = some ⟨.type "tuple", o2, .seq #[.str "back" u2, .int 4 v2] n2, s2⟩)
    (l3 : K.lookup a3 = some ⟨.type "tuple", o3, .seq #[.str "swap" u3, .int 4 v3] n3, s3⟩) (l4 : K.lookup a4 = some ⟨.type "tuple", o4, .seq #[.str "credit" u4, .int 4 v4] n4, s4⟩) (l5 : K.lookup a5 = some ⟨.type "tuple", o5, .seq #[.str "pay" u5, .int 3 v5] n5, s5⟩)
    (l6 : K.lookup a6 = some ⟨.type "tuple", o6, .seq #[.str "refund" u6, .int 3 v6] n6, s6⟩) (l7 : K.lookup a7 = some ⟨.type "tuple", o7, .seq #[.str "move" u7, .int 4 v7] n7, s7⟩) : Dp K H (.ref a) (.tuple deedsT) :=
  .tup (xs := [.ref a0, .ref a1, .ref a2, .ref a3, .ref a4, .ref a5, .ref a6, .ref a7]) (.inr ⟨_, _, _, l, rfl, rfl, sz8, .cons rfl (.cons rfl (.cons rfl (.cons rfl (.cons rfl (.cons rfl (.cons rfl (.cons rfl .nil)))))))⟩)
    (.cons (pair_dp l0) (.cons (pair_dp l1) (.cons (pair_dp l2) (.cons (pair_dp l3) (.cons (pair_dp l4) (.cons (pair_dp l5) (.cons (pair_dp l6) (.cons (pair_dp l7) .nil))))))))
theorem BCal.mono {P : Program} {w : World} {K : PySem.W.Frag} {mg : Str → Option Value} {base : Heap} {j k : Nat} {C : Addr} {m : Str} {ps : List Str} {sp : Sp} (c : BCal P w K mg base j C m ps sp) (h : j ≤ k) : BCal P w K mg base k C m ps sp := by
  obtain ⟨f, fd, hm, F, r⟩ := c.ex
  exact ⟨c.cls, ⟨f, fd, hm, F.mono h, r⟩, c.mem⟩
theorem BMk.mono {P : Program} {w : World} {K : PySem.W.Frag} {mg : Str → Option Value} {base : Heap} {j k : Nat} {R : BRep} (c : BMk P w K mg base j R) (h : j ≤ k) : BMk P w K mg base k R := by
  obtain ⟨f, fd, ps, hm, F, r⟩ := c.ex
  exact ⟨⟨f, fd, ps, hm, F.mono h, r⟩, c.g⟩
end Of

set_option Elab.async false
set_option linter.all false
set_option maxRecDepth 100000
set_option maxHeartbeats 4000000
/-! How the program's book lies in the heap. -/
namespace Of
open PySem PySem.Spec PyProof.Rows L2
/-- the deed d, that was done on M0, as the book keeps it -/
def DvOne (K : PySem.W.Frag) (H : Hp) (os : List OA2) (v : V) (d : Deed) (M0 : List Od) : Prop := d.Shape ∧
  ((∃ ls t o xs, d = .ord ls ∧ v = .ref t ∧ os[M0.length]? = some o ∧ H t = some (.tup [.str "order", .ref o.q]) ∧ H o.q = some (.lst xs) ∧ DpAll K H xs (ls.map lineD) ∧ ∀ t ∈ ls, PyData.strOk t.item = true) ∨
   ((∀ ls, d ≠ .ord ls) ∧ Dp K H v (deedD d)))
def DvAt (K : PySem.W.Frag) (H : Hp) (os : List OA2) : List V → List (Deed × List Od) → Prop := Paired fun v p => DvOne K H os v p.1 p.2
structure ShpAt (K : PySem.W.Frag) (CL CO CB : Addr) (fp : Addr → Prop) (H : Hp) (b : Addr) (M : List Od) (E : List (List Ent)) (past : List (Deed × List Od)) (dx ol dl : Addr) (os : List OA2) (dv : List V) : Prop where
  hb : H b = some (.ins CB dx [("_orders", .ref ol), ("_deeds", .ref dl)])
  ho : H ol = some (.lst (os.map fun o => V.ref o.a))
  hd : H dl = some (.lst dv)
  lM : os.length = M.length
  lE : os.length = E.length
  od : ∀ (k : Nat) o m es, os[k]? = some o → M[k]? = some m → E[k]? = some es → OdAt2 K CL CO H o m es
  qs : ∀ o ∈ os, ∃ xs, H o.q = some (.lst xs)
  dv : DvAt K H os dv.reverse past
  nol : ol ≠ dl
  nf : ∀ o ∈ os, ∀ x, Foot o x ∨ x = o.q → x ≠ b ∧ x ≠ ol ∧ x ≠ dl
  nq : ∀ o ∈ os, ∀ o' ∈ os, ¬ Foot o o'.q
  dis : ∀ (i j : Nat) o o', i ≠ j → os[i]? = some o → os[j]? = some o' → (∀ x, Foot o x → ¬ Foot o' x) ∧ o.q ≠ o'.q
  fps : fp b ∧ fp ol ∧ fp dl ∧ ∀ o ∈ os, (∀ x, Foot o x → fp x) ∧ fp o.q
  mt : Mut fp H
/-- the lines as they were -/
def backL (ls : List Ln) : Option (Nat × Int × Int × Int × Int) → List Ln
  | none => ls
  | some (j, s, h, a, c) => ls.set j { (ls.getD j ⟨⟨#[]⟩, 0, 0, 0, 0, 0, 0, 0⟩) with sent := s, home := h, again := a, credited := c }
def backM (m : Od) (e : Ent) : Od := ⟨backL m.lines e.ln, e.rc, m.rows.dropLast⟩
def UndAt (o : Int) (M : List Od) (E : List (List Ent)) (M0 : List Od) (E0 : List (List Ent)) : Prop := 0 ≤ o ∧
  ∃ m es e, M[o.toNat]? = some m ∧ E[o.toNat]? = some (es ++ [e]) ∧ M0 = M.set o.toNat (backM m e) ∧ E0 = E.set o.toNat es
/-- d taken back -/
def Und (d : Deed) (M : List Od) (E : List (List Ent)) (M0 : List Od) (E0 : List (List Ent)) : Prop :=
  match d with
  | .ord _ => (∃ m, M = M0 ++ [m]) ∧ E = E0 ++ [[]]
  | .goods _ o _ _ => UndAt o M E M0 E0
  | .money _ o _ => UndAt o M E M0 E0
  | .move o p _ => o ≠ p ∧ ∃ M1 E1, UndAt o M E M1 E1 ∧ UndAt p M1 E1 M0 E0
structure Good (M : List Od) (E : List (List Ent)) (n : Nat) : Prop where
  ok : ∀ m ∈ M, m.Ok
  le : M.length ≤ 40
  rl : RowsLe (2 * n) M
  el : ∀ (k : Nat) m es, M[k]? = some m → E[k]? = some es → es.length = m.rows.length
def Hist : List (Deed × List Od) → List Od → List (List Ent) → Prop
  | [], M, E => M = [] ∧ E = []
  | (d, M0) :: rest, M, E => Good M E (rest.length + 1) ∧ ∃ E0, Und d M E M0 E0 ∧ Hist rest M0 E0
theorem Hist.good : ∀ {past : List (Deed × List Od)} {M : List Od} {E : List (List Ent)}, Hist past M E → Good M E past.length
  | [], M, E, h => by
    obtain ⟨rfl, rfl⟩ := h
    exact ⟨(fun _ z => by cases z), Nat.zero_le _, (fun _ z => by cases z), (fun _ _ _ z => by cases z)⟩
  | (_, _) :: _, _, _, h => h.1
def BookRep (K : PySem.W.Frag) (CL CO CB : Addr) (fp : Addr → Prop) (H : Hp) (b : Addr) (S : BS) : Prop := ∃ E dx ol dl os dv, ShpAt K CL CO CB fp H b S.M E S.past dx ol dl os dv ∧ Hist S.past S.M E
section
variable {K : PySem.W.Frag} {CL CO CB : Addr} {fp : Addr → Prop} {H H' : Hp} {b dx ol dl : Addr} {M : List Od} {E : List (List Ent)} {past : List (Deed × List Od)} {os : List OA2} {dv : List V}
theorem deed_flat {d : Deed} (sh : d.Shape) (no : ∀ ls, d ≠ .ord ls) : FlatT (deedD d) := by
  cases d with
  | ord ls => exact absurd rfl (no ls)
  | goods x o l n =>
    have ws := word_ok (d := .goods x o l n) sh
    exact ⟨_, rfl, by show 4 ≤ 100; decide, fun p hp => by
      simp only [List.mem_cons, List.not_mem_nil, or_false] at hp
      rcases hp with rfl | rfl | rfl | rfl
      · exact .inl ⟨_, rfl, ws⟩
      all_goals exact .inr ⟨_, rfl⟩⟩
  | money x o n =>
    have ws := word_ok (d := .money x o n) sh
    exact ⟨_, rfl, by show 3 ≤ 100; decide, fun p hp => by
      simp only [List.mem_cons, List.not_mem_nil, or_false] at hp
      rcases hp with rfl | rfl | rfl
      · exact .inl ⟨_, rfl, ws⟩
      all_goals exact .inr ⟨_, rfl⟩⟩
  | move o l n =>
    exact ⟨_, rfl, by show 4 ≤ 100; decide, fun p hp => by
      simp only [List.mem_cons, List.not_mem_nil, or_false] at hp
      rcases hp with rfl | rfl | rfl | rfl
      · exact .inl ⟨_, rfl, by decide +kernel⟩
      all_goals exact .inr ⟨_, rfl⟩⟩
theorem lines_flat {ls : List LineT} (h : ∀ t ∈ ls, PyData.strOk t.item = true) : ∀ d ∈ ls.map lineD, FlatT d := fun d hd => by
  obtain ⟨t, ht, rfl⟩ := List.mem_map.mp hd
  exact .line (h t ht)
theorem DvOne.frame {v : V} {d : Deed} {M0 : List Od} {os' : List OA2} (h : DvOne K H os v d M0) (t : TupK H H') (q : ∀ o ∈ os, ∀ u, H o.q = some u → H' o.q = some u) (ho : ∀ (k : Nat) o, os[k]? = some o → os'[k]? = some o) : DvOne K H' os' v d M0 := by
  obtain ⟨sh, h⟩ := h
  refine ⟨sh, h.imp (fun ⟨ls, p, o, xs, e1, e2, e3, e4, e5, e6, e7⟩ => ⟨ls, p, o, xs, e1, e2, ho _ _ e3, t _ _ ⟨_, .inl rfl⟩ e4, q o (List.mem_of_getElem? e3) _ e5, flat_tupK t (lines_flat e7) e6, e7⟩) fun ⟨e1, e2⟩ => ⟨e1, (deed_flat sh e1).tupK t e2⟩⟩
theorem DvAt.frame {vs : List V} {os' : List OA2} (h : DvAt K H os vs past) (t : TupK H H') (q : ∀ o ∈ os, ∀ u, H o.q = some u → H' o.q = some u) (ho : ∀ (k : Nat) o, os[k]? = some o → os'[k]? = some o) : DvAt K H' os' vs past :=
  Paired.imp (fun _ _ h => h.frame t q ho) h
/-- all of it stays -/
theorem ShpAt.stay (A : ShpAt K CL CO CB fp H b M E past dx ol dl os dv) (ok : ∀ m ∈ M, m.Ok) (f : ∀ x u, fp x → H x = some u → H' x = some u) (t : TupK H H') : ShpAt K CL CO CB fp H' b M E past dx ol dl os dv := by
  obtain ⟨f1, f2, f3, f4⟩ := A.fps
  refine ⟨f _ _ f1 A.hb, f _ _ f2 A.ho, f _ _ f3 A.hd, A.lM, A.lE, fun k o m es h1 h2 h3 => (A.od k o m es h1 h2 h3).frame (ok m (List.mem_of_getElem? h2)).rw (fun x u hx e => f x u ((f4 o (List.mem_of_getElem? h1)).1 x hx) e) t, fun o ho => ?_, A.dv.frame t (fun o ho u e => f _ _ (f4 o ho).2 e) fun _ _ h => h, A.nol, A.nf, A.nq, A.dis, A.fps, fun a ha => ?_⟩
  · obtain ⟨xs, e⟩ := A.qs o ho
    exact ⟨xs, f _ _ (f4 o ho).2 e⟩
  · obtain ⟨u, h1, h2⟩ := A.mt a ha
    exact ⟨u, f _ _ ha h1, h2⟩
/-- an order changes -/
theorem ShpAt.order (A : ShpAt K CL CO CB fp H b M E past dx ol dl os dv) (ok : ∀ m ∈ M, m.Ok) {k : Nat} {o : OA2} {m' : Od} {es' : List Ent} (ho : os[k]? = some o) (kp : Keep (Foot o) H H') (O : OdAt2 K CL CO H' o m' es') :
    ShpAt K CL CO CB fp H' b (M.set k m') (E.set k es') past dx ol dl os dv := by
  obtain ⟨f1, f2, f3, f4⟩ := A.fps
  have mo := List.mem_of_getElem? ho
  have nb := fun x hx => A.nf o mo x (.inl hx)
  have nq : ∀ o' ∈ os, ∀ u, H o'.q = some u → H' o'.q = some u := fun o' h u e => (kp _ _ e).1 (A.nq o mo o' h)
  refine ⟨(kp _ _ A.hb).1 fun z => (nb _ z).1 rfl, (kp _ _ A.ho).1 fun z => (nb _ z).2.1 rfl, (kp _ _ A.hd).1 fun z => (nb _ z).2.2 rfl, by rw [List.length_set]; exact A.lM, by rw [List.length_set]; exact A.lE, fun i p m es h1 h2 h3 => ?_, fun o' h => ?_, A.dv.frame kp.tupK nq fun _ _ h => h, A.nol, A.nf, A.nq, A.dis, A.fps, kp.mut A.mt⟩
  · by_cases e : k = i
    · subst e
      rw [ho] at h1; cases h1
      have hk := (List.getElem?_eq_some_iff.mp ho).1
      rw [List.getElem?_set_self (by rw [← A.lM]; exact hk)] at h2; cases h2
      rw [List.getElem?_set_self (by rw [← A.lE]; exact hk)] at h3; cases h3
      exact O
    · rw [List.getElem?_set_ne e] at h2 h3
      exact (A.od i p m es h1 h2 h3).frame (ok m (List.mem_of_getElem? h2)).rw (fun x u hx e' => (kp _ _ e').1 fun z => (A.dis k i o p e ho h1).1 x z hx) kp.tupK
  · obtain ⟨xs, e⟩ := A.qs o' h
    exact ⟨xs, nq o' h _ e⟩
/-- a deed more is kept -/
theorem ShpAt.deed (A : ShpAt K CL CO CB fp H b M E past dx ol dl os dv) (ok : ∀ m ∈ M, m.Ok) {v : V} {d : Deed} {M0 : List Od} (h : DvOne K H os v d M0) : ShpAt K CL CO CB fp (upd H dl (.lst (dv ++ [v]))) b M E ((d, M0) :: past) dx ol dl os (dv ++ [v]) := by
  obtain ⟨f1, f2, f3, f4⟩ := A.fps
  have t : TupK H (upd H dl (.lst (dv ++ [v]))) := tupK_upd A.hd no_lst
  have nb : b ≠ dl := fun z => by have := A.hb; rw [z, A.hd] at this; cases this
  have nq : ∀ o' ∈ os, ∀ u, H o'.q = some u → upd H dl (.lst (dv ++ [v])) o'.q = some u := fun o' h u e => by rw [upd_ne (A.nf o' h _ (.inr rfl)).2.2]; exact e
  refine ⟨by rw [upd_ne nb]; exact A.hb, by rw [upd_ne A.nol]; exact A.ho, upd_same, A.lM, A.lE, fun i p m es h1 h2 h3 => ?_, fun o' h => ?_, ?_, A.nol, A.nf, A.nq, A.dis, A.fps, (Keep.upd1 (F := fp) f3 A.hd no_lst no_lst).mut A.mt⟩
  · exact (A.od i p m es h1 h2 h3).frame (ok m (List.mem_of_getElem? h2)).rw (fun x u hx e' => by rw [upd_ne (A.nf p (List.mem_of_getElem? h1) x (.inl hx)).2.2]; exact e') t
  · obtain ⟨xs, e⟩ := A.qs o' h
    exact ⟨xs, nq o' h _ e⟩
  · rw [List.reverse_append]
    exact .cons (h.frame t nq fun _ _ h => h) (A.dv.frame t nq fun _ _ h => h)
/-- an order more -/
theorem ShpAt.more (A : ShpAt K CL CO CB fp H b M E past dx ol dl os dv) (ok : ∀ m ∈ M, m.Ok) {o : OA2} {m : Od} {t : Addr} {xs : List V} {ls : List LineT} (f : ∀ x u, x ≠ ol → x ≠ dl → H x = some u → H' x = some u)
    (h1 : H' ol = some (.lst ((os.map fun o => V.ref o.a) ++ [.ref o.a]))) (h2 : H' dl = some (.lst (dv ++ [.ref t]))) (h3 : H' t = some (.tup [.str "order", .ref o.q])) (h4 : H' o.q = some (.lst xs)) (h5 : DpAll K H' xs (ls.map lineD)) (h6 : ∀ t ∈ ls, PyData.strOk t.item = true)
    (O : OdAt2 K CL CO H' o m []) (nw : ∀ x, Foot o x ∨ x = o.q → H x = none) (n : ¬ Foot o o.q) :
    ShpAt K CL CO CB (fun x => fp x ∨ Foot o x ∨ x = o.q) H' b (M ++ [m]) (E ++ [[]]) ((.ord ls, M) :: past) dx ol dl (os ++ [o]) (dv ++ [.ref t]) := by
  obtain ⟨f1, f2, f3, f4⟩ := A.fps
  have nb1 : b ≠ ol := fun z => by have := A.hb; rw [z, A.ho] at this; cases this
  have nb2 : b ≠ dl := fun z => by have := A.hb; rw [z, A.hd] at this; cases this
  have tk : TupK H H' := fun a u tu e => by
    refine f a u (fun z => ?_) (fun z => ?_) e
    · rw [z, A.ho] at e; rw [← Option.some.inj e] at tu; exact no_lst tu
    · rw [z, A.hd] at e; rw [← Option.some.inj e] at tu; exact no_lst tu
  have fo : ∀ o' ∈ os, ∀ x, Foot o' x ∨ x = o'.q → ∀ u, H x = some u → H' x = some u := fun o' h x hx u e => f x u (A.nf o' h x hx).2.1 (A.nf o' h x hx).2.2 e
  have has : ∀ o' ∈ os, ∀ x, Foot o' x ∨ x = o'.q → H x ≠ none := fun o' h x hx => by
    refine A.mt.has x ?_
    rcases hx with z | z
    · exact (f4 o' h).1 x z
    · rw [z]; exact (f4 o' h).2
  have get : ∀ (k : Nat) p, (os ++ [o])[k]? = some p → os[k]? = some p ∨ (k = os.length ∧ p = o) := fun k p h => by
    rcases Nat.lt_or_ge k os.length with z | z
    · rw [List.getElem?_append_left z] at h; exact .inl h
    · rw [List.getElem?_append_right z] at h
      have z0 : k - os.length = 0 := by
        have := (List.getElem?_eq_some_iff.mp h).1
        simp only [List.length_cons, List.length_nil] at this
        omega
      rw [z0] at h
      exact .inr ⟨by omega, (Option.some.inj h).symm⟩
  have mem : ∀ p ∈ os ++ [o], p ∈ os ∨ p = o := fun p h => (List.mem_append.mp h).imp id List.mem_singleton.mp
  refine ⟨f _ _ nb1 nb2 A.hb, by rw [List.map_append]; exact h1, h2, by rw [List.length_append, List.length_append, A.lM]; rfl, by rw [List.length_append, List.length_append, A.lE]; rfl, fun k p m' es' e1 e2 e3 => ?_, fun p hp => ?_, ?_, A.nol, fun p hp x hx => ?_, fun p hp p' hp' => ?_, fun i j p p' ne e1 e2 => ?_, ⟨.inl f1, .inl f2, .inl f3, fun p hp => ?_⟩, fun a ha => ?_⟩
  · rcases get k p e1 with z | ⟨z1, z2⟩
    · have hk := (List.getElem?_eq_some_iff.mp z).1
      rw [List.getElem?_append_left (by rw [← A.lM]; exact hk)] at e2
      rw [List.getElem?_append_left (by rw [← A.lE]; exact hk)] at e3
      exact (A.od k p m' es' z e2 e3).frame (ok m' (List.mem_of_getElem? e2)).rw (fun x u hx e => fo p (List.mem_of_getElem? z) x (.inl hx) u e) tk
    · subst z2
      rw [List.getElem?_append_right (by rw [← A.lM]; omega), show k - M.length = 0 by rw [← A.lM]; omega] at e2
      rw [List.getElem?_append_right (by rw [← A.lE]; omega), show k - E.length = 0 by rw [← A.lE]; omega] at e3
      cases e2
      cases e3
      exact O
  · rcases mem p hp with z | z
    · obtain ⟨ys, e⟩ := A.qs p z
      exact ⟨ys, fo p z _ (.inr rfl) _ e⟩
    · rw [z]; exact ⟨xs, h4⟩
  · rw [List.reverse_append]
    refine .cons ⟨trivial, .inl ⟨ls, t, o, xs, rfl, rfl, ?_, h3, h4, h5, h6⟩⟩ (A.dv.frame tk (fun p hp u e => fo p hp _ (.inr rfl) u e) fun k p h => ?_)
    · show (os ++ [o])[M.length]? = some o
      rw [← A.lM, List.getElem?_append_right (Nat.le_refl _), Nat.sub_self]; rfl
    · rw [List.getElem?_append_left (List.getElem?_eq_some_iff.mp h).1]; exact h
  · rcases mem p hp with z | z
    · exact A.nf p z x hx
    · rw [z] at hx
      have := nw x hx
      refine ⟨fun e => ?_, fun e => ?_, fun e => ?_⟩ <;> rw [e] at this
      · rw [A.hb] at this; cases this
      · rw [A.ho] at this; cases this
      · rw [A.hd] at this; cases this
  · rcases mem p hp with z | z <;> rcases mem p' hp' with z' | z'
    · exact A.nq p z p' z'
    · rw [z']; exact fun q => has p z _ (.inl q) (nw _ (.inr rfl))
    · rw [z]; exact fun q => has p' z' _ (.inr rfl) (nw _ (.inl q))
    · rw [z, z']; exact n
  · rcases get i p e1 with z | ⟨z1, z2⟩ <;> rcases get j p' e2 with z' | ⟨z1', z2'⟩
    · exact A.dis i j p p' ne z z'
    · rw [z2']
      have mp := List.mem_of_getElem? z
      exact ⟨fun x hx q => has p mp x (.inl hx) (nw _ (.inl q)), fun e => has p mp _ (.inr rfl) (by rw [e]; exact nw _ (.inr rfl))⟩
    · rw [z2]
      have mp := List.mem_of_getElem? z'
      exact ⟨fun x hx q => has p' mp x (.inl q) (nw _ (.inl hx)), fun e => has p' mp _ (.inr rfl) (by rw [← e]; exact nw _ (.inr rfl))⟩
    · omega
  · rcases mem p hp with z | z
    · exact ⟨fun x hx => .inl ((f4 p z).1 x hx), .inl (f4 p z).2⟩
    · rw [z]; exact ⟨fun x hx => .inr (.inl hx), .inr (.inr rfl)⟩
  · rcases ha with z | z | z
    · obtain ⟨u, e1, e2⟩ := A.mt a z
      by_cases q1 : a = ol
      · rw [q1]; exact ⟨_, h1, no_lst⟩
      by_cases q2 : a = dl
      · rw [q2]; exact ⟨_, h2, no_lst⟩
      exact ⟨u, f a u q1 q2 e1, e2⟩
    · rcases z with z | z | z | z | z
      · rw [z]; exact ⟨_, O.hd, no_ins⟩
      · rw [z]; exact ⟨_, O.hl, no_lst⟩
      · obtain ⟨cs, e, _⟩ := O.hc
        rw [z]; exact ⟨_, e, no_lst⟩
      · obtain ⟨cs, e, _⟩ := O.ha
        rw [z]; exact ⟨_, e, no_lst⟩
      · obtain ⟨i, hi⟩ := List.getElem?_of_mem z
        have hj : i < m.lines.length := by rw [← O.len]; exact (List.getElem?_eq_some_iff.mp hi).1
        obtain ⟨dx', e⟩ := O.ln i a _ hi (List.getElem?_eq_getElem hj)
        exact ⟨_, e, no_ins⟩
    · rw [z]; exact ⟨_, h4, no_lst⟩
end
/-- the program's book as one that is told by its promises -/
def theR (K : PySem.W.Frag) (CL CO CB : Addr) : BRep where
  Rep := BookRep K CL CO CB
  C := CB
  mt := fun ⟨_, _, _, _, _, _, A, _⟩ => A.mt
  at_ := fun ⟨_, _, _, _, _, _, A, _⟩ => A.fps.1
  ins := fun ⟨_, dx, ol, dl, _, _, A, _⟩ => ⟨_, dx, _, rfl, A.hb, fun m hm => by
    simp only [List.mem_cons, List.not_mem_nil, or_false] at hm
    rcases hm with rfl | rfl | rfl | rfl | rfl | rfl | rfl | rfl | rfl <;> rfl⟩
  stays := fun ⟨E, dx, ol, dl, os, dv, A, h⟩ f t => ⟨E, dx, ol, dl, os, dv, A.stay h.good.ok (fun a o z e => f a o z e) t, h⟩
end Of

set_option Elab.async false
set_option linter.all false
set_option maxRecDepth 100000
set_option maxHeartbeats 4000000
/-! A deed done on the accounts, and taken back: what the program's own records hold of it. -/
namespace Of
open PySem PySem.Spec PyProof.Rows L2
theorem sum_set : ∀ (l : List Ln) (j : Nat) (a b : Ln), l[j]? = some a → ((l.set j b).map Ln.charge).sum = (l.map Ln.charge).sum + (b.charge - a.charge)
  | [], j, a, b, h => by simp at h
  | x :: l, 0, a, b, h => by
    have h := Option.some.inj h
    subst h
    show (b.charge :: l.map Ln.charge).sum = (x.charge :: l.map Ln.charge).sum + _
    rw [List.sum_cons, List.sum_cons]
    omega
  | x :: l, j + 1, a, b, h => by
    have ih := sum_set l j a b h
    show (x.charge :: (l.set j b).map Ln.charge).sum = (x.charge :: l.map Ln.charge).sum + _
    rw [List.sum_cons, List.sum_cons, ih]
    omega
theorem owed_setLine {m : Od} {j : Nat} {a b : Ln} (h : m.lines[j]? = some a) : (setLine m j b).owed - m.owed = b.charge - a.charge := by
  show ((m.lines.set j b).map Ln.charge).sum - m.paid - ((m.lines.map Ln.charge).sum - m.paid) = _
  rw [sum_set _ _ _ _ h]
  omega
theorem owed_addPaid {m : Od} {n : Int} : (addPaid m n).owed - m.owed = -n := by
  show (m.lines.map Ln.charge).sum - (m.paid + n) - ((m.lines.map Ln.charge).sum - m.paid) = _
  omega
theorem set_get {α : Type} {l : List α} {k : Nat} {x : α} (h : l[k]? = some x) : l.set k x = l := by
  obtain ⟨h1, h2⟩ := List.getElem?_eq_some_iff.mp h
  rw [← h2]
  exact List.set_getElem_self h1
/-- goods or a price -/
theorem step_goods {M : List Od} {x : Str} {o l n : Int} (h0 : 0 ≤ o) (h1 : o < (M.length : Int)) (g0 : 0 ≤ l) (g1 : l < ((ordAt M o).lines.length : Int)) :
    changesM M (.goods x o l n) = [(o, (turnL x n (lnAt (ordAt M o) l)).charge - (lnAt (ordAt M o) l).charge)] ∧
    stepM M (.goods x o l n) = M.set o.toNat (addRow (setLine (ordAt M o) l.toNat (turnL x n (lnAt (ordAt M o) l))) x ((turnL x n (lnAt (ordAt M o) l)).charge - (lnAt (ordAt M o) l).charge)) := by
  have e1 : changesM M (.goods x o l n) = [(o, (turnL x n (lnAt (ordAt M o) l)).charge - (lnAt (ordAt M o) l).charge)] := by
    show [(o, (ordAt (M.set o.toNat (setLine (ordAt M o) l.toNat (turnL x n (lnAt (ordAt M o) l)))) o).owed - (ordAt M o).owed)] = _
    rw [ordAt_set h0 h1 h0, if_pos rfl, owed_setLine (getD_at g0 g1)]
    rfl
  refine ⟨e1, ?_⟩
  rw [stepM_no (fun _ z => by cases z), e1]
  show ((M.set o.toNat (setLine (ordAt M o) l.toNat _)).set o.toNat (addRow (ordAt (M.set o.toNat (setLine (ordAt M o) l.toNat _)) o) x _)) = _
  rw [ordAt_set h0 h1 h0, if_pos rfl, List.set_set]
theorem step_money {M : List Od} {x : Str} {o n : Int} (h0 : 0 ≤ o) (h1 : o < (M.length : Int)) :
    changesM M (.money x o n) = [(o, -(if x = "pay" then n else -n))] ∧
    stepM M (.money x o n) = M.set o.toNat (addRow (addPaid (ordAt M o) (if x = "pay" then n else -n)) x (-(if x = "pay" then n else -n))) := by
  have e1 : changesM M (.money x o n) = [(o, -(if x = "pay" then n else -n))] := by
    show [(o, (ordAt (M.set o.toNat (addPaid (ordAt M o) (if x = "pay" then n else -n))) o).owed - (ordAt M o).owed)] = _
    rw [ordAt_set h0 h1 h0, if_pos rfl, owed_addPaid]
  refine ⟨e1, ?_⟩
  rw [stepM_no (fun _ z => by cases z), e1]
  show ((M.set o.toNat (addPaid (ordAt M o) _)).set o.toNat (addRow (ordAt (M.set o.toNat (addPaid (ordAt M o) _)) o) x _)) = _
  rw [ordAt_set h0 h1 h0, if_pos rfl, List.set_set]
theorem step_move {M : List Od} {o p n : Int} (h0 : 0 ≤ o) (h1 : o < (M.length : Int)) (g0 : 0 ≤ p) (g1 : p < (M.length : Int)) (ne : o ≠ p) :
    changesM M (.move o p n) = [(o, n), (p, -n)] ∧
    stepM M (.move o p n) = (M.set o.toNat (addRow (addPaid (ordAt M o) (-n)) "move" n)).set p.toNat (addRow (addPaid (ordAt M p) n) "move" (-n)) := by
  have nt : o.toNat ≠ p.toNat := by omega
  have l1 : ∀ m, (M.set o.toNat m).length = M.length := fun m => List.length_set
  have a1 : ∀ m m', ordAt ((M.set o.toNat m).set p.toNat m') o = m := fun m m' => by
    rw [ordAt_set g0 (by rw [l1]; exact g1) h0, if_neg (Ne.symm ne), ordAt_set h0 h1 h0, if_pos rfl]
  have a2 : ∀ m m', ordAt ((M.set o.toNat m).set p.toNat m') p = m' := fun m m' => by
    rw [ordAt_set g0 (by rw [l1]; exact g1) g0, if_pos rfl]
  have e1 : changesM M (.move o p n) = [(o, n), (p, -n)] := by
    show [(o, (ordAt ((M.set o.toNat (addPaid (ordAt M o) (-n))).set p.toNat (addPaid (ordAt M p) n)) o).owed - (ordAt M o).owed), (p, (ordAt ((M.set o.toNat (addPaid (ordAt M o) (-n))).set p.toNat (addPaid (ordAt M p) n)) p).owed - (ordAt M p).owed)] = _
    rw [a1, a2, owed_addPaid, owed_addPaid, Int.neg_neg]
  refine ⟨e1, ?_⟩
  rw [stepM_no (fun _ z => by cases z), e1]
  show ((((M.set o.toNat (addPaid (ordAt M o) (-n))).set p.toNat (addPaid (ordAt M p) n)).set o.toNat (addRow (ordAt ((M.set o.toNat (addPaid (ordAt M o) (-n))).set p.toNat (addPaid (ordAt M p) n)) o) "move" n)).set p.toNat (addRow (ordAt (((M.set o.toNat (addPaid (ordAt M o) (-n))).set p.toNat (addPaid (ordAt M p) n)).set o.toNat (addRow (ordAt ((M.set o.toNat (addPaid (ordAt M o) (-n))).set p.toNat (addPaid (ordAt M p) n)) o) "move" n)) p) "move" (-n))) = _
  rw [a1, ordAt_set h0 (by rw [List.length_set, l1]; exact h1) g0, if_neg ne, a2, List.set_comm _ _ (Ne.symm nt), List.set_set, List.set_set]
/-! ### taken back -/
theorem back_line {m : Od} {j : Nat} {l : Ln} {x : Str} {n c : Int} (h : m.lines[j]? = some l) : backM (addRow (setLine m j (turnL x n l)) x c) ⟨m.paid, some (j, l.sent, l.home, l.again, l.credited)⟩ = m := by
  obtain ⟨ls, pd, rows⟩ := m
  have hj : j < ls.length := (List.getElem?_eq_some_iff.mp h).1
  have e : (ls.set j (turnL x n l)).getD j ⟨⟨#[]⟩, 0, 0, 0, 0, 0, 0, 0⟩ = turnL x n l := by
    rw [List.getD_eq_getElem?_getD, List.getElem?_set_self hj]; rfl
  show (⟨(ls.set j (turnL x n l)).set j { ((ls.set j (turnL x n l)).getD j ⟨⟨#[]⟩, 0, 0, 0, 0, 0, 0, 0⟩) with sent := l.sent, home := l.home, again := l.again, credited := l.credited }, pd, (rows ++ [(x, c)]).dropLast⟩ : Od) = _
  rw [e, List.set_set, List.dropLast_concat]
  have e2 : ({ turnL x n l with sent := l.sent, home := l.home, again := l.again, credited := l.credited } : Ln) = l := by
    unfold turnL
    split
    · rfl
    split
    · rfl
    · rfl
  rw [e2]
  show (⟨ls.set j l, pd, rows⟩ : Od) = _
  rw [set_get h]
theorem back_paid {m : Od} {n c : Int} {x : Str} : backM (addRow (addPaid m n) x c) ⟨m.paid, none⟩ = m := by
  obtain ⟨ls, pd, rows⟩ := m
  show (⟨ls, pd, (rows ++ [(x, c)]).dropLast⟩ : Od) = _
  rw [List.dropLast_concat]
theorem undAt_of {M : List Od} {E : List (List Ent)} {o : Int} {m m' : Od} {es : List Ent} {e : Ent} (h0 : 0 ≤ o) (hm : M[o.toNat]? = some m) (he : E[o.toNat]? = some es) (hb : backM m' e = m) : UndAt o (M.set o.toNat m') (E.set o.toNat (es ++ [e])) M E := by
  refine ⟨h0, m', es, e, List.getElem?_set_self (List.getElem?_eq_some_iff.mp hm).1, List.getElem?_set_self (List.getElem?_eq_some_iff.mp he).1, ?_, ?_⟩
  · rw [List.set_set, hb, set_get hm]
  · rw [List.set_set, set_get he]
/-! ### the accounts stay good -/
theorem Good.set {M : List Od} {E : List (List Ent)} {n k : Nat} {m m' : Od} {es : List Ent} {e : Ent} (g : Good M E n) (hm : M[k]? = some m) (he : E[k]? = some es) (ok : m'.Ok) (r : m'.rows.length = m.rows.length + 1) {n' : Nat} (hn : n ≤ n') (hr : m.rows.length + 1 ≤ 2 * n') : Good (M.set k m') (E.set k (es ++ [e])) n' := by
  refine ⟨fun x hx => ?_, by rw [List.length_set]; exact g.le, fun x hx => ?_, fun i x ys h1 h2 => ?_⟩
  · rcases List.mem_or_eq_of_mem_set hx with z | rfl
    · exact g.ok x z
    · exact ok
  · rcases List.mem_or_eq_of_mem_set hx with z | rfl
    · exact Nat.le_trans (g.rl x z) (by omega)
    · rw [r]; exact hr
  · by_cases e2 : k = i
    · subst e2
      rw [List.getElem?_set_self (List.getElem?_eq_some_iff.mp hm).1] at h1
      rw [List.getElem?_set_self (List.getElem?_eq_some_iff.mp he).1] at h2
      cases h1
      cases h2
      rw [List.length_append, r, g.el k m es hm he]
      rfl
    · rw [List.getElem?_set_ne e2] at h1 h2
      exact g.el i x ys h1 h2
theorem bad_lines {ls : List LineT} (h : firstBad ls = "") : ∀ t ∈ ls, itemOk t.item = true ∧ numsOk t = true := by
  induction ls with
  | nil => intro _ z; cases z
  | cons t r ih =>
    have e : firstBad (t :: r) = (if itemOk t.item = false then "NoItem" else if numsOk t = false then "NoNumber" else firstBad r : Str) := rfl
    rw [e] at h
    by_cases h1 : itemOk t.item = false
    · rw [if_pos h1] at h
      exact absurd h (by decide +kernel)
    rw [if_neg h1] at h
    by_cases h2 : numsOk t = false
    · rw [if_pos h2] at h
      exact absurd h (by decide +kernel)
    rw [if_neg h2] at h
    intro x hx
    rcases List.mem_cons.mp hx with rfl | hx
    · exact ⟨by simpa using h1, by simpa using h2⟩
    · exact ih h x hx
theorem line_ok {t : LineT} (h1 : itemOk t.item = true) (h2 : numsOk t = true) : t.Ok := by
  unfold itemOk at h1
  unfold numsOk at h2
  simp only [Bool.and_eq_true, decide_eq_true_eq, List.all_eq_true] at h1 h2
  obtain ⟨⟨a1, a2⟩, a3⟩ := h1
  obtain ⟨⟨⟨⟨⟨b1, b2⟩, b3⟩, b4⟩, b5⟩, b6⟩ := h2
  exact ⟨b1, b2, b3, b4, b5, b6, a1, a2, a3⟩
theorem legal_ord {M : List Od} {ls : List LineT} (h : refuseM M (.ord ls) = "") : (Deed.ord ls).LinesOk ∧ M.length < 40 := by
  have e : refuseM M (.ord ls) = (if ls.length = 0 ∨ 20 < ls.length then "NoLines" else if ¬ firstBad ls = "" then firstBad ls else if 40 ≤ M.length then "FullBook" else "" : Str) := rfl
  rw [e] at h
  by_cases h1 : ls.length = 0 ∨ 20 < ls.length
  · rw [if_pos h1] at h
    exact absurd h (by decide +kernel)
  rw [if_neg h1] at h
  by_cases h2 : firstBad ls = ""
  · rw [if_neg fun z => z h2] at h
    by_cases h3 : 40 ≤ M.length
    · rw [if_pos h3] at h
      exact absurd h (by decide +kernel)
    exact ⟨⟨by omega, by omega, fun t ht => line_ok (bad_lines h2 t ht).1 (bad_lines h2 t ht).2⟩, by omega⟩
  · rw [if_pos h2] at h
    exact absurd h h2
theorem Good.ord {M : List Od} {E : List (List Ent)} {n : Nat} {ls : List LineT} (g : Good M E n) (l : (Deed.ord ls).LinesOk) (h : M.length < 40) (hl : M.length = E.length) : Good (M ++ [⟨ls.map LineT.new, 0, []⟩]) (E ++ [[]]) (n + 1) := by
  obtain ⟨l0, l1, lk⟩ := l
  refine ⟨fun x hx => ?_, by rw [List.length_append]; exact h, fun x hx => ?_, fun i x ys h1 h2 => ?_⟩
  · rcases List.mem_append.mp hx with z | z
    · exact g.ok x z
    · rw [List.mem_singleton] at z
      subst z
      refine ⟨by simpa using l0, by simpa using l1, fun l hl => ?_, fun r hr => by cases hr⟩
      obtain ⟨t, ht, rfl⟩ := List.mem_map.mp hl
      exact (lk t ht).ln
  · rcases List.mem_append.mp hx with z | z
    · exact Nat.le_trans (g.rl x z) (by omega)
    · rw [List.mem_singleton] at z
      subst z
      exact Nat.zero_le _
  · rcases Nat.lt_or_ge i M.length with z | z
    · rw [List.getElem?_append_left z] at h1
      rw [List.getElem?_append_left (by omega)] at h2
      exact g.el i x ys h1 h2
    · rw [List.getElem?_append_right z] at h1
      rw [List.getElem?_append_right (by omega)] at h2
      have z0 : i - M.length = 0 := by
        have := (List.getElem?_eq_some_iff.mp h1).1
        simp only [List.length_cons, List.length_nil] at this
        omega
      rw [z0] at h1
      rw [← hl, z0] at h2
      cases h1
      cases h2
      rfl
theorem at_ordAt {M : List Od} {o : Int} (h0 : 0 ≤ o) (h1 : o < (M.length : Int)) : M[o.toNat]? = some (ordAt M o) := getD_at h0 h1
def entsAt (E : List (List Ent)) (o : Int) : List Ent := E.getD o.toNat []
/-- what the records are behind a deed -/
def stepE (M : List Od) (E : List (List Ent)) : Deed → List (List Ent)
  | .ord _ => E ++ [[]]
  | .goods _ o l _ => E.set o.toNat (entsAt E o ++ [⟨(ordAt M o).paid, some (l.toNat, (lnAt (ordAt M o) l).sent, (lnAt (ordAt M o) l).home, (lnAt (ordAt M o) l).again, (lnAt (ordAt M o) l).credited)⟩])
  | .money _ o _ => E.set o.toNat (entsAt E o ++ [⟨(ordAt M o).paid, none⟩])
  | .move o p _ => (E.set o.toNat (entsAt E o ++ [⟨(ordAt M o).paid, none⟩])).set p.toNat (entsAt E p ++ [⟨(ordAt M p).paid, none⟩])
theorem ents_at {E : List (List Ent)} {o : Int} {k : Nat} (h0 : 0 ≤ o) (h1 : o < (k : Int)) (hl : k = E.length) : E[o.toNat]? = some (entsAt E o) := getD_at h0 (by rw [← hl]; exact h1)
theorem set_at {α : Type} {l : List α} {i j : Nat} {x y : α} (ne : i ≠ j) (h : l[j]? = some y) : (l.set i x)[j]? = some y := by rw [List.getElem?_set_ne ne]; exact h
/-- a deed that is not refused, on the records -/
theorem step_hist {M : List Od} {E : List (List Ent)} {n : Nat} {d : Deed} (g : Good M E n) (hl : M.length = E.length) (sh : d.Shape) (h : refuseM M d = "") : Und d (stepM M d) (stepE M E d) M E ∧ Good (stepM M d) (stepE M E d) (n + 1) := by
  cases d with
  | ord ls =>
    obtain ⟨lo, hm⟩ := legal_ord h
    exact ⟨⟨⟨_, rfl⟩, rfl⟩, g.ord lo hm hl⟩
  | goods x o l k =>
    obtain ⟨⟨h0, h1⟩, ⟨g0, g1⟩, _⟩ := legal_goods (show refusalM M (.goods x o l k) = "" from h)
    have em := at_ordAt h0 h1
    have ee := ents_at h0 h1 hl
    have ok := g.ok _ (List.mem_of_getElem? em)
    have rl := g.rl _ (List.mem_of_getElem? em)
    rw [(step_goods h0 h1 g0 g1).2]
    exact ⟨undAt_of h0 em ee (back_line (getD_at g0 g1)), g.set em ee ((ok.setLine (ok.at_ g0 g1).turn).addRow (word_ok (d := .goods x o l k) sh)) (by show (_ ++ [_]).length = _; rw [List.length_append]; rfl) (Nat.le_succ n) (by omega)⟩
  | money x o k =>
    obtain ⟨⟨h0, h1⟩, _⟩ := legal_money (show refusalM M (.money x o k) = "" from h)
    have em := at_ordAt h0 h1
    have ee := ents_at h0 h1 hl
    have ok := g.ok _ (List.mem_of_getElem? em)
    have rl := g.rl _ (List.mem_of_getElem? em)
    rw [(step_money h0 h1).2]
    exact ⟨undAt_of h0 em ee back_paid, g.set em ee (ok.addPaid.addRow (word_ok (d := .money x o k) sh)) (by show (_ ++ [_]).length = _; rw [List.length_append]; rfl) (Nat.le_succ n) (by omega)⟩
  | move o p k =>
    obtain ⟨⟨h0, h1⟩, ⟨g0, g1⟩, ne, _⟩ := legal_move (show refusalM M (.move o p k) = "" from h)
    have nt : o.toNat ≠ p.toNat := by omega
    have em := at_ordAt h0 h1
    have ee := ents_at h0 h1 hl
    have fm := at_ordAt g0 g1
    have fe := ents_at g0 g1 hl
    have ok := g.ok _ (List.mem_of_getElem? em)
    have rl := g.rl _ (List.mem_of_getElem? em)
    have ok2 := g.ok _ (List.mem_of_getElem? fm)
    have rl2 := g.rl _ (List.mem_of_getElem? fm)
    have ws := word_ok (d := .move o p k) sh
    rw [(step_move h0 h1 g0 g1 ne).2]
    have G1 := g.set (n' := n + 1) (e := ⟨(ordAt M o).paid, none⟩) em ee ((ok.addPaid (n := -k)).addRow (n := k) ws) (by show (_ ++ [_]).length = _; rw [List.length_append]; rfl) (Nat.le_succ n) (by omega)
    refine ⟨⟨ne, (M.set p.toNat (addRow (addPaid (ordAt M p) k) "move" (-k))), E.set p.toNat (entsAt E p ++ [⟨(ordAt M p).paid, none⟩]), ?_, undAt_of g0 fm fe back_paid⟩, G1.set (set_at nt fm) (set_at nt fe) ((ok2.addPaid (n := k)).addRow (n := -k) ws) (by show (_ ++ [_]).length = _; rw [List.length_append]; rfl) (Nat.le_refl _) (by omega)⟩
    have u := undAt_of (E := E.set p.toNat (entsAt E p ++ [⟨(ordAt M p).paid, none⟩])) (M := M.set p.toNat (addRow (addPaid (ordAt M p) k) "move" (-k))) (e := ⟨(ordAt M o).paid, none⟩) h0 (set_at nt.symm em) (set_at nt.symm ee) (back_paid (m := ordAt M o) (n := -k) (c := k) (x := "move"))
    rw [List.set_comm _ _ nt.symm, List.set_comm _ _ nt.symm] at u
    exact u
end Of

set_option Elab.async false
set_option linter.all false
set_option maxRecDepth 100000
set_option maxHeartbeats 4000000
/-! What stands of every account behind each deed. -/
namespace Of
open PySem PySem.Spec PyProof.Rows L2
structure Ln.Inv (l : Ln) : Prop where
  a0 : 0 ≤ l.again
  ah : l.again ≤ l.home
  hs : l.home ≤ l.sent
  sp : l.sent ≤ l.pieces + l.again
  c0 : 0 ≤ l.credited
  cw : l.credited ≤ l.worth
structure Od.Inv (m : Od) : Prop where
  ln : ∀ l ∈ m.lines, l.Inv
  pd : 0 ≤ m.paid
  rw : (m.rows.map fun r => r.2).sum = m.owed
def InvM (M : List Od) : Prop := ∀ m ∈ M, m.Inv
theorem Ln.Inv.new {t : LineT} (h : t.Ok) : t.new.Inv := by
  refine ⟨Int.le_refl 0, Int.le_refl 0, Int.le_refl 0, ?_, Int.le_refl 0, ?_⟩
  · have := h.n0
    show (0 : Int) ≤ t.pieces + 0
    omega
  · show (0 : Int) ≤ (0 - 0) * t.cents / t.pack
    simp
theorem worth_up {a b c p : Int} (hc : 0 ≤ c) (hp : 1 ≤ p) (h : a ≤ b) : a * c / p ≤ b * c / p := Int.ediv_le_ediv (by omega) (Int.mul_le_mul_of_nonneg_right h hc)
theorem worth_0 {a c p : Int} (ha : 0 ≤ a) (hc : 0 ≤ c) (hp : 1 ≤ p) : 0 ≤ a * c / p := Int.ediv_nonneg (Int.mul_nonneg ha hc) (by omega)
theorem Ln.Inv.turn {l : Ln} {w : Str} {n : Int} (I : l.Inv) (ok : l.Ok) (gw : GoodsW w) (n1 : 1 ≤ n) (nm : n ≤ mostL w l) : (turnL w n l).Inv := by
  obtain ⟨a0, ah, hs, sp, c0, cw⟩ := I
  have d1 : ("back" : Str) ≠ "deliver" := by decide +kernel
  have d2 : ("back" : Str) ≠ "credit" := by decide +kernel
  have d3 : ("swap" : Str) ≠ "deliver" := by decide +kernel
  have d4 : ("swap" : Str) ≠ "credit" := by decide +kernel
  have d5 : ("back" : Str) ≠ "swap" := by decide +kernel
  have d6 : ("credit" : Str) ≠ "deliver" := by decide +kernel
  have w0 : 0 ≤ (l.sent - l.home - n) * l.cents / l.pack ∨ l.sent - l.home < n := by
    by_cases h : l.sent - l.home < n
    · exact .inr h
    · exact .inl (worth_0 (by omega) ok.c0 ok.p0)
  unfold Ln.worth at cw
  rcases gw with rfl | rfl | rfl | rfl
  · have nm : n ≤ l.pieces - l.sent + l.again := by unfold mostL at nm; rw [if_pos rfl] at nm; exact nm
    unfold turnL
    rw [if_pos rfl]
    refine ⟨a0, ah, ?_, ?_, c0, ?_⟩
    · show l.home ≤ l.sent + n; omega
    · show l.sent + n ≤ l.pieces + l.again; omega
    · show l.credited ≤ (l.sent + n - l.home) * l.cents / l.pack
      exact Int.le_trans cw (worth_up ok.c0 ok.p0 (by omega))
  · have nm : n ≤ l.sent - l.home := by unfold mostL at nm; rw [if_neg d1, if_neg d2] at nm; exact nm
    unfold turnL
    rw [if_neg d1, if_neg d2, if_neg d5]
    refine ⟨?_, ?_, ?_, ?_, ?_, Int.min_le_right _ _⟩
    · show 0 ≤ l.again + 0; omega
    · show l.again + 0 ≤ l.home + n; omega
    · show l.home + n ≤ l.sent; omega
    · show l.sent ≤ l.pieces + (l.again + 0); omega
    · show 0 ≤ min l.credited ((l.sent - (l.home + n)) * l.cents / l.pack)
      rw [show l.sent - (l.home + n) = l.sent - l.home - n by omega]
      rcases w0 with w0 | w0 <;> omega
  · have nm : n ≤ l.sent - l.home := by unfold mostL at nm; rw [if_neg d3, if_neg d4] at nm; exact nm
    unfold turnL
    rw [if_neg d3, if_neg d4, if_pos rfl]
    refine ⟨?_, ?_, ?_, ?_, ?_, Int.min_le_right _ _⟩
    · show 0 ≤ l.again + n; omega
    · show l.again + n ≤ l.home + n; omega
    · show l.home + n ≤ l.sent; omega
    · show l.sent ≤ l.pieces + (l.again + n); omega
    · show 0 ≤ min l.credited ((l.sent - (l.home + n)) * l.cents / l.pack)
      rw [show l.sent - (l.home + n) = l.sent - l.home - n by omega]
      rcases w0 with w0 | w0 <;> omega
  · have nm : n ≤ l.worth - l.credited := by unfold mostL at nm; rw [if_neg d6, if_pos rfl] at nm; exact nm
    unfold turnL
    rw [if_neg d6, if_pos rfl]
    unfold Ln.worth at nm
    refine ⟨a0, ah, hs, sp, ?_, ?_⟩
    · show 0 ≤ l.credited + n; omega
    · show l.credited + n ≤ (l.sent - l.home) * l.cents / l.pack; omega
theorem charges_0 {ls : List Ln} (h : ∀ l ∈ ls, l.Inv) : 0 ≤ (ls.map Ln.charge).sum := by
  induction ls with
  | nil => exact Int.le_refl 0
  | cons l r ih =>
    rw [List.map_cons, List.sum_cons]
    have := ih fun x hx => h x (.tail _ hx)
    have := (h l (.head _)).cw
    unfold Ln.charge
    unfold Ln.charge at *
    omega
theorem owed_row {m : Od} {w : Str} {c : Int} : (addRow m w c).owed = m.owed := rfl
theorem row_sum {m : Od} {w : Str} {c : Int} : ((addRow m w c).rows.map fun r => r.2).sum = (m.rows.map fun r => r.2).sum + c := by
  show ((m.rows ++ [(w, c)]).map fun r => r.2).sum = _
  rw [List.map_append, List.sum_append]
  simp
theorem InvM.at_ {M : List Od} (I : InvM M) {o : Int} (h0 : 0 ≤ o) (h1 : o < (M.length : Int)) : (ordAt M o).Inv := I _ (List.mem_of_getElem? (at_ordAt h0 h1))
theorem InvM.set {M : List Od} (I : InvM M) {k : Nat} {m : Od} (h : m.Inv) : InvM (M.set k m) := fun x hx => by
  rcases List.mem_or_eq_of_mem_set hx with z | rfl
  · exact I x z
  · exact h
theorem Od.Inv.line {m : Od} (I : m.Inv) {j : Nat} {a b : Ln} {w : Str} (h : m.lines[j]? = some a) (hb : b.Inv) : (addRow (setLine m j b) w (b.charge - a.charge)).Inv := by
  refine ⟨fun x hx => ?_, I.pd, ?_⟩
  · rcases List.mem_or_eq_of_mem_set hx with z | rfl
    · exact I.ln x z
    · exact hb
  · rw [row_sum, owed_row]
    have := owed_setLine (b := b) h
    have := I.rw
    show (m.rows.map fun r => r.2).sum + (b.charge - a.charge) = (setLine m j b).owed
    omega
theorem Od.Inv.money {m : Od} (I : m.Inv) {n : Int} {w : Str} (h : 0 ≤ m.paid + n) : (addRow (addPaid m n) w (-n)).Inv := by
  refine ⟨I.ln, h, ?_⟩
  rw [row_sum, owed_row]
  have := owed_addPaid (m := m) (n := n)
  have := I.rw
  show (m.rows.map fun r => r.2).sum + -n = (addPaid m n).owed
  omega
theorem Od.Inv.room {m : Od} (I : m.Inv) {n : Int} (h : n ≤ -m.owed) : 0 ≤ m.paid - n := by
  have := charges_0 I.ln
  unfold Od.owed at h
  omega
theorem mostM_goods {M : List Od} {x : Str} {o l : Int} (gw : GoodsW x) (h : 0 ≤ o ∧ o < (M.length : Int)) (g : 0 ≤ l ∧ l < ((ordAt M o).lines.length : Int)) : mostM x o l M = mostL x (lnAt (ordAt M o) l) := by
  have n1 : x ≠ "pay" ∧ x ≠ "refund" ∧ x ≠ "move" := by rcases gw with rfl | rfl | rfl | rfl <;> exact ⟨by decide +kernel, by decide +kernel, by decide +kernel⟩
  unfold mostM
  rw [inR_iff.mpr h, if_neg (fun z => nomatch z), if_neg n1.1, if_neg (fun z => z.elim n1.2.1 n1.2.2), inR_iff.mpr g, if_neg (fun z => nomatch z)]
theorem mostM_back {M : List Od} {x : Str} {o : Int} (hx : x = "refund" ∨ x = "move") (h : 0 ≤ o ∧ o < (M.length : Int)) : mostM x o 0 M = -(ordAt M o).owed := by
  have n1 : x ≠ "pay" := by rcases hx with rfl | rfl <;> decide +kernel
  unfold mostM
  rw [inR_iff.mpr h, if_neg (fun z => nomatch z), if_neg n1, if_pos hx]
theorem new_owed {ls : List LineT} : (⟨ls.map LineT.new, 0, []⟩ : Od).owed = 0 := by
  unfold Od.owed
  have : ∀ ls : List LineT, ((ls.map LineT.new).map Ln.charge).sum = 0 := fun ls => by
    induction ls with
    | nil => rfl
    | cons t r ih =>
      rw [List.map_cons, List.map_cons, List.sum_cons, ih]
      show (0 - 0) * t.cents / t.pack - 0 + 0 = 0
      simp
  show ((ls.map LineT.new).map Ln.charge).sum - 0 = 0
  rw [this]
  rfl
theorem InvM.step {M : List Od} {d : Deed} (W : WF M) (I : InvM M) (sh : d.Shape) (lo : d.LinesOk) (h : refusalM M d = "") : InvM (stepM M d) := by
  cases d with
  | ord ls =>
    obtain ⟨_, _, lk⟩ := lo
    intro m hm
    rcases List.mem_append.mp hm with z | z
    · exact I m z
    rw [List.mem_singleton.mp z]
    refine ⟨fun l hl => ?_, Int.le_refl 0, new_owed.symm⟩
    obtain ⟨t, ht, rfl⟩ := List.mem_map.mp hl
    exact .new (lk t ht)
  | goods x o l n =>
    obtain ⟨h0, g0, n1, nm⟩ := legal_goods h
    rw [(step_goods h0.1 h0.2 g0.1 g0.2).2]
    rw [mostM_goods sh h0 g0] at nm
    have m0 := I.at_ h0.1 h0.2
    have e := getD_at (d := (⟨⟨#[]⟩, 0, 0, 0, 0, 0, 0, 0⟩ : Ln)) g0.1 g0.2
    exact I.set (m0.line e ((m0.ln _ (List.mem_of_getElem? e)).turn ((W.at_ h0.1 h0.2).at_ g0.1 g0.2) sh n1 nm))
  | money x o n =>
    obtain ⟨h0, n1, nm⟩ := legal_money h
    rw [(step_money h0.1 h0.2).2]
    have m0 := I.at_ h0.1 h0.2
    refine I.set (m0.money ?_)
    have := m0.pd
    by_cases e : x = "pay"
    · rw [if_pos e]; omega
    · rw [if_neg e]
      have nm := nm.resolve_left e
      rw [mostM_back (.inl (sh.resolve_left e)) h0] at nm
      have := m0.room nm
      omega
  | move o p n =>
    obtain ⟨h0, g0, ne, n1, nm⟩ := legal_move h
    rw [(step_move h0.1 h0.2 g0.1 g0.2 ne).2]
    have m0 := I.at_ h0.1 h0.2
    have m1 := I.at_ g0.1 g0.2
    rw [mostM_back (.inr rfl) h0] at nm
    have r0 := m0.room nm
    have e : (addRow (addPaid (ordAt M o) (-n)) "move" n).Inv := by
      have := m0.money (n := -n) (w := "move") (by omega)
      rw [Int.neg_neg] at this
      exact this
    exact (I.set e).set (m1.money (by have := m1.pd; omega))
/-! ### by how much more is owed -/
/-- the cents that a deed told of an order -/
def centsOf (cs : List (Int × Int)) (a : Int) : List Int := (cs.filter fun c => decide (c.1 = a)).map fun c => c.2
def isGoods : Deed → Bool
  | .goods _ _ _ _ => true
  | _ => false
structure Diff (M M' : List Od) (cs : List (Int × Int)) (g : Bool) (a : Int) : Prop where
  one : (centsOf cs a).length ≤ 1
  owed : (ordAt M' a).owed - (ordAt M a).owed = (centsOf cs a).sum
  stay : centsOf cs a = [] → ordAt M' a = ordAt M a
  paid : g = true → (ordAt M' a).paid = (ordAt M a).paid
  lines : g = false → (ordAt M' a).lines = (ordAt M a).lines
theorem cents_yes {a c : Int} : centsOf [(a, c)] a = [c] := by unfold centsOf; simp
theorem cents_no {a b c : Int} (h : b ≠ a) : centsOf [(b, c)] a = [] := by unfold centsOf; simp [h]
theorem step_diff {M : List Od} {d : Deed} (h : refusalM M d = "") {a : Int} (a0 : 0 ≤ a) (a1 : a < (M.length : Int)) : Diff M (stepM M d) (changesM M d) (isGoods d) a := by
  cases d with
  | ord ls =>
    have e : ordAt (stepM M (.ord ls)) a = ordAt M a := by
      show (M ++ [_]).getD a.toNat _ = M.getD a.toNat _
      rw [List.getD_eq_getElem?_getD, List.getD_eq_getElem?_getD, List.getElem?_append_left (by omega)]
    exact ⟨Nat.zero_le _, by rw [e]; show _ = (0 : Int); omega, fun _ => e, (fun z => nomatch z), fun _ => by rw [e]⟩
  | goods x o l n =>
    obtain ⟨h0, g0, _, _⟩ := legal_goods h
    obtain ⟨e1, e2⟩ := step_goods (x := x) (n := n) h0.1 h0.2 g0.1 g0.2
    rw [e1, e2]
    by_cases e : o = a
    · subst e
      have e3 := ordAt_set (m := addRow (setLine (ordAt M o) l.toNat (turnL x n (lnAt (ordAt M o) l))) x ((turnL x n (lnAt (ordAt M o) l)).charge - (lnAt (ordAt M o) l).charge)) h0.1 h0.2 a0
      rw [if_pos rfl] at e3
      refine ⟨by rw [cents_yes]; exact Nat.le_refl 1, ?_, (fun z => by rw [cents_yes] at z; cases z), fun _ => by rw [e3]; rfl, fun z => nomatch z⟩
      rw [e3, cents_yes, owed_row, owed_setLine (getD_at g0.1 g0.2)]
      show _ = _ + (0 : Int)
      rw [Int.add_zero]
      rfl
    · have e3 := ordAt_set (m := addRow (setLine (ordAt M o) l.toNat (turnL x n (lnAt (ordAt M o) l))) x ((turnL x n (lnAt (ordAt M o) l)).charge - (lnAt (ordAt M o) l).charge)) h0.1 h0.2 a0
      rw [if_neg e] at e3
      exact ⟨by rw [cents_no e]; exact Nat.zero_le _, by rw [e3, cents_no e]; show _ = (0 : Int); omega, fun _ => e3, fun _ => by rw [e3], fun _ => by rw [e3]⟩
  | money x o n =>
    obtain ⟨h0, _, _⟩ := legal_money h
    obtain ⟨e1, e2⟩ := step_money (x := x) (n := n) h0.1 h0.2
    rw [e1, e2]
    generalize (if x = "pay" then n else -n) = k
    have e3 := ordAt_set (m := addRow (addPaid (ordAt M o) k) x (-k)) h0.1 h0.2 a0
    by_cases e : o = a
    · subst e
      rw [if_pos rfl] at e3
      refine ⟨by rw [cents_yes]; exact Nat.le_refl 1, ?_, (fun z => by rw [cents_yes] at z; cases z), (fun z => nomatch z), fun _ => by rw [e3]; rfl⟩
      rw [e3, cents_yes, owed_row, owed_addPaid]
      show _ = _ + (0 : Int)
      rw [Int.add_zero]
    · rw [if_neg e] at e3
      exact ⟨by rw [cents_no e]; exact Nat.zero_le _, by rw [e3, cents_no e]; show _ = (0 : Int); omega, fun _ => e3, fun _ => by rw [e3], fun _ => by rw [e3]⟩
  | move o p n =>
    obtain ⟨h0, g0, ne, _, _⟩ := legal_move h
    obtain ⟨e1, e2⟩ := step_move (n := n) h0.1 h0.2 g0.1 g0.2 ne
    rw [e1, e2]
    have e3 := ordAt_set (M := M.set o.toNat (addRow (addPaid (ordAt M o) (-n)) "move" n)) (m := addRow (addPaid (ordAt M p) n) "move" (-n)) g0.1 (by rw [List.length_set]; exact g0.2) a0
    have e4 := ordAt_set (m := addRow (addPaid (ordAt M o) (-n)) "move" n) h0.1 h0.2 a0
    have two : centsOf [(o, n), (p, -n)] a = centsOf [(o, n)] a ++ centsOf [(p, -n)] a := by
      unfold centsOf
      rw [← List.map_append, ← List.filter_append]
      rfl
    rw [e4] at e3
    by_cases e : p = a
    · subst e
      rw [if_pos rfl] at e3
      rw [cents_no ne, cents_yes] at two
      refine ⟨by rw [two]; exact Nat.le_refl 1, ?_, (fun z => by rw [two] at z; cases z), (fun z => nomatch z), fun _ => by rw [e3]; rfl⟩
      rw [e3, two, owed_row, owed_addPaid]
      show _ = -n + (0 : Int)
      rw [Int.add_zero]
    rw [if_neg e] at e3
    by_cases e5 : o = a
    · subst e5
      rw [if_pos rfl] at e3
      rw [cents_no e, cents_yes] at two
      refine ⟨by rw [two]; exact Nat.le_refl 1, ?_, (fun z => by rw [two] at z; cases z), (fun z => nomatch z), fun _ => by rw [e3]; rfl⟩
      rw [e3, two, owed_row, owed_addPaid]
      show _ = n + (0 : Int)
      omega
    · rw [if_neg e5] at e3
      rw [cents_no e, cents_no e5] at two
      exact ⟨by rw [two]; exact Nat.zero_le _, by rw [e3, two]; show _ = (0 : Int); omega, fun _ => e3, fun _ => by rw [e3], fun _ => by rw [e3]⟩
def owedAll (M : List Od) : Int := (M.map Od.owed).sum
theorem owedAll_set : ∀ {M : List Od} {k : Nat} {a b : Od}, M[k]? = some a → owedAll (M.set k b) = owedAll M + (b.owed - a.owed)
  | [], k, a, b, h => by simp at h
  | x :: l, 0, a, b, h => by
    have h := Option.some.inj h
    subst h
    show (b.owed :: l.map Od.owed).sum = (x.owed :: l.map Od.owed).sum + _
    rw [List.sum_cons, List.sum_cons]
    omega
  | x :: l, j + 1, a, b, h => by
    have ih := owedAll_set (M := l) (k := j) (b := b) h
    show (x.owed :: (l.set j b).map Od.owed).sum = (x.owed :: l.map Od.owed).sum + _
    unfold owedAll at ih
    rw [List.sum_cons, List.sum_cons, ih]
    omega
theorem step_all {M : List Od} {d : Deed} (h : refusalM M d = "") : ((changesM M d).map fun c => c.2).sum = owedAll (stepM M d) - owedAll M := by
  cases d with
  | ord ls =>
    show (0 : Int) = ((M ++ [_]).map Od.owed).sum - _
    rw [List.map_append, List.sum_append]
    show (0 : Int) = (M.map Od.owed).sum + ((⟨ls.map LineT.new, 0, []⟩ : Od).owed + 0) - (M.map Od.owed).sum
    rw [new_owed]
    omega
  | goods x o l n =>
    obtain ⟨h0, g0, _, _⟩ := legal_goods h
    obtain ⟨e1, e2⟩ := step_goods (x := x) (n := n) h0.1 h0.2 g0.1 g0.2
    rw [e1, e2, owedAll_set (at_ordAt h0.1 h0.2), owed_row, owed_setLine (getD_at g0.1 g0.2)]
    simp only [List.map_cons, List.map_nil, List.sum_cons, List.sum_nil]
    show _ + (0 : Int) = _ + ((turnL x n (lnAt (ordAt M o) l)).charge - (lnAt (ordAt M o) l).charge) - _
    omega
  | money x o n =>
    obtain ⟨h0, _, _⟩ := legal_money h
    obtain ⟨e1, e2⟩ := step_money (x := x) (n := n) h0.1 h0.2
    rw [e1, e2, owedAll_set (at_ordAt h0.1 h0.2), owed_row, owed_addPaid]
    simp only [List.map_cons, List.map_nil, List.sum_cons, List.sum_nil]
    omega
  | move o p n =>
    obtain ⟨h0, g0, ne, _, _⟩ := legal_move h
    obtain ⟨e1, e2⟩ := step_move (n := n) h0.1 h0.2 g0.1 g0.2 ne
    have l1 : (M.set o.toNat (addRow (addPaid (ordAt M o) (-n)) "move" n))[p.toNat]? = some (ordAt M p) := by
      rw [List.getElem?_set_ne (by omega)]
      exact at_ordAt g0.1 g0.2
    rw [e1, e2, owedAll_set l1, owedAll_set (at_ordAt h0.1 h0.2), owed_row, owed_row, owed_addPaid, owed_addPaid]
    simp only [List.map_cons, List.map_nil, List.sum_cons, List.sum_nil]
    omega
end Of

set_option Elab.async false
set_option linter.all false
set_option maxRecDepth 100000
set_option maxHeartbeats 4000000
/-! A list comprehension whose item is a call that may raise: what it raises leaves the comprehension, and is ours. -/
namespace Of
open PySem PySem.Spec PyProof.Rows L2
/-- how the block of a comprehension may end: as the library says where it is well, else its names go and the error goes on -/
def EndC (M : Model) (A : Around) (E : Value → Shared → Prop) (use : Option (Value → Sem Unit)) (Q : Value → Shared → Prop) (acc : Value) (ce : Env) : Result → Shared → Prop
  | .ok f, z => compPost M A E use Q acc ce.locals (.ok f) z
  | .error x, z => ∃ m, z.heap.Ns ce.locals m ∧ ∀ g, Heap.SameBut ce.locals z.heap g → wpAny M A (passOn "comprehension.variables-let-go" x ce : Sem Value) (fun _ _ => False) E { z with heap := g }
section
variable {M : Model} {A : Around} {E : Value → Shared → Prop} {s : Shared} {env : Env}
theorem names_back {cenv : Env} {scope : Scope} {l : List (Str × NameKind)} (hn : ∀ x ∈ scope.names, x.2 = .local → scope.names.lookup x.1 = some .local) (hl : ∀ x ∈ l, x ∈ scope.names) :
    ∀ x ∈ l, x.2 = .local → Env.kindOf { cenv with scope := relabel scope env } x.1 = some .local := fun x hx e => lookup_relabel_local (hn x (hl x hx) e)
theorem comp_out {e : Expr} {scope : Scope} {pos : Pos} {mk first : Sem Value} {g : Comprehension} {gs : List Comprehension} {cl : List (Str × Addr)} {use : Option (Value → Sem Unit)} {Q : Value → Shared → Prop}
    (c1 : clausesOf e = g :: gs) (c2 : ∀ x, foldedSetIterable g.iter env x = pure x) (c3 : closureFor scope env = pure cl) (c4 : scope.kind = .function) (c5 : ∀ x ∈ scope.names, x.2 = .local → scope.names.lookup x.1 = some .local)
    (h : wpAny M A first (fun x z1 => wpAny M A (pyIter x) (fun it z2 => wpAny M A mk (fun acc z3 => wpAny M A (newFunctionEnv scope env.globals cl [] env.qual none .none (some env))
      (fun ce z4 => codeAny M A (.compStart e 0 it acc { ce with scope := relabel scope env }) (EndC M A E use Q acc { ce with scope := relabel scope env }) z4) E z3) E z2) E z1) E s) :
    wpAny M A (comprehension e scope env pos mk false first use) Q E s := by
  have up : ∀ {α : Type} {t : Sem α} {Q1 Q2 : α → Shared → Prop} {z : Shared}, wpAny M A t Q1 E z → (∀ a y, Q1 a y → Q2 a y) → wpAny M A t Q2 E z := fun q w => wpAny_mono q w fun _ _ y => y
  unfold comprehension
  rw [c3, c1]
  refine wpAny_bind (up h fun x z1 h1 => wpAny_bind (wpAny_standAt (wpAny_bind (wpAny_of_eq (c2 x) (wpAny_bind (wpAny_holding (up h1 fun it z2 h2 => ?_)))))))
  refine wpAny_standIf (wpAny_bind (up h2 fun acc z3 h3 => wpAny_bind (wpAny_pure (wpAny_bind (up h3 fun ce z4 h4 => ?_)))))
  dsimp only
  have sub : ∀ x ∈ (scope.names.filter fun x => (x.2 == .local || x.2 == .cell) && x.1 != (".0" : Str)).reverse, x ∈ scope.names := fun x hx => (List.mem_filter.mp (List.mem_reverse.mp hx)).1
  have sub2 : ∀ x ∈ (scope.names.filter fun x => (x.2 == .local || x.2 == .cell) && x.1 != (".0" : Str)).reverse.drop 1 ++ (scope.names.filter fun x => (x.2 == .local || x.2 == .cell) && x.1 != (".0" : Str)).reverse.take 1, x ∈ scope.names :=
    fun x hx => sub x ((List.mem_append.mp hx).elim List.mem_of_mem_drop List.mem_of_mem_take)
  refine wpAny_holding (wpAny_bind (wpAny_attempt (wpAny_holding (wpAny_run (codeAny_mono h4 fun r z hr => ?_)))))
  have go : ∀ {z : Shared} {m : Str → Option Value} {Q' : Unit → Shared → Prop} {F : List (Str × NameKind) → List Value} (l : List (Str × NameKind)), (∀ x ∈ l, x ∈ scope.names) → z.heap.Ns ce.locals m → (∀ g, Heap.SameBut ce.locals z.heap g → Q' () { z with heap := g }) →
      wpAny M A (comprehension.letGo { ce with scope := relabel scope env } F l) Q' E z := fun l hl hn k => wpAny_comp_letGo (cenv := { ce with scope := relabel scope env }) c4 l _ _ (names_back c5 hl) hn fun g _ _ sb => k g sb
  cases r with
  | error x =>
    obtain ⟨m, hn, k⟩ : EndC M A E use Q acc { ce with scope := relabel scope env } (.error x) z := by cases use <;> exact hr
    exact wpAny_bind (wpAny_holding (go _ sub hn fun g sb => wpAny_mono (k g sb) (fun _ _ f => f.elim) fun _ _ y => y))
  | ok f =>
    cases use with
    | none =>
      obtain ⟨m, hn, k⟩ := hr
      exact wpAny_bind (wpAny_holding (go _ sub hn fun g sb => wpAny_pure (k g sb)))
    | some u =>
      refine wpAny_bind (wpAny_rule (wpAny_bind (wpAny_holding (up hr fun _ z5 ⟨m, hn, k⟩ => ?_))))
      exact wpAny_bind (go _ sub2 hn fun g sb => wpAny_pure (k g sb))
end

theorem note_frame {e : Value} {a b : Env} (h : a.frame = b.frame) : noteFrame e a = noteFrame e b := by unfold noteFrame PySem.frameOf; rw [h]
/-- what a call let out flies -/
theorem fly_of {B : Heap} {l : List Env} {a L : Addr} {Z : Obj → Prop} {h : Heap} {B2 : Heap} {l2 : List Env} {Z2 : Obj → Prop} (k : Sky B l a Z L h) (f : HandSPX.FlyingZ B2 l2 a Z2 h) : HandSPX.FlyingZ B l a Z h := by
  obtain ⟨_, _, _, oe, vs, T, oT, ts, he, _, hd, h1, _, _, hT, hdT, h3⟩ := f
  rcases k with ⟨_, _, _, oe', vs', he', _, hd', h1'⟩ | k | ⟨_, _, _, oe', vs', T', oT', ts', he', _, hd', h1', _, _, hT', hdT', h3'⟩
  · rw [he] at he'; cases he'
    rw [hd] at hd'; cases hd'
    rw [h1] at h1'; cases h1'
  · exact k
  · rw [he] at he'; cases he'
    rw [hd] at hd'; cases hd'
    rw [h1] at h1'; cases h1'
    rw [hT] at hT'; cases hT'
    rw [hdT] at hdT'; cases hdT'
    rw [h3] at h3'
    exact absurd (Option.some.inj h3') (by simp [rawInt])
/-- a def's call within the block let an exception out -/
def Let (Xb : Cx) (E : XK) : Value → Shared → Prop := fun u z => ∃ (pins : List (Addr × Obj)) (σ : L2.St) (H : Hp) (y : Shared), Inv Xb pins σ H y ∧ L2.CX Xb.prog Xb.w Xb.stack H y E u z
theorem Let.passes {Xb : Cx} {E : XK} : Passes (L2.CX Xb.prog Xb.w) (Xb.wish (Let Xb E)) E := fun pins σ H s _ _ I c => ⟨pins, σ, H, s, I.unwish, c⟩
section
variable {X : Cx} {pins : List (Addr × Obj)} {σ : L2.St} {W : WX} {E : XK}
theorem lets_out {s3 : Shared} {H3 : Hp} {scope : Scope} {ce : Env} {fp : List Addr} {use : Option (Value → Sem Unit)} {Qf : Value → Shared → Prop} {acc u : Value} {z : Shared} (hs : X.stack = X.env :: X.outer) (hf : X.env.frame = some X.env.locals) (tk : Takes X W) (hW : ∀ cls d H', E cls d H' → W cls d σ H')
    (I3 : Inv X pins σ H3 s3) (f3 : ∀ b ∈ fp, FpOk X pins H3 b) (cL : ce.locals = s3.heap.objs.size) (cF : ce.frame = X.env.frame) (h : Let (X.blk s3 H3 scope ce fp) E u z) :
    notedBy (model X.prog X.w) X.A ce (fun e y => EndC (model X.prog X.w) X.A X.xe use Qf acc ce (.error e) y) u z := by
  obtain ⟨pins1, σ1, H1, y1, I1, c⟩ := h
  obtain ⟨a, B, sI, pins2, σ2, H2, cls, d, rfl, J, nb, upz, sky, na, os, ag, w⟩ := XE.of_call (X := X.blk s3 H3 scope ce fp) (W := fun cls d _ H => E cls d H) I1 (fun _ _ _ h => h) c
  obtain ⟨a2, B2, _, cls2, d2, e2, fl2, _⟩ := c
  cases e2
  have fl : HandSPX.FlyingZ B (X.env :: X.outer) a (Zc cls d) z.heap := by rw [← hs]; exact fly_of sky fl2
  have hfr : X.A.frames = some (X.env :: X.outer) := by rw [I3.ok.frames, hs]
  show wpAny _ _ (noteFrame (.ref a) ce) _ _ _
  rw [note_frame cF]
  refine HandSPX.looks_onZ Zc.steady hfr hf fl fun h1 held up1 => ?_
  obtain ⟨m, hn, _⟩ := J.loc
  have hn : sI.heap.Ns ce.locals m := hn
  have nC : H2 s3.heap.objs.size = none := by rw [← cL]; exact J.free
  have K : Inv X pins σ H2 sI := I3.call' (ch := fp) J.os J.base J.hok J.bare fun b hb => ⟨(f3 b hb).2.2.2.1, (f3 b hb).2.1, (f3 b hb).2.2.2.2.1, (f3 b hb).2.2.2.2.2⟩
  have fC := I3.fpOk (Nat.le_refl _) nC
  rw [← cL] at fC
  obtain ⟨f0, f1, f2, f4, f5, f6⟩ := fC
  have up := upz.trans up1
  refine ⟨m, up.ns hn, fun g sb => ?_⟩
  -- the block's names are no part of the ground any more
  obtain ⟨oC, _, _, hoC, _⟩ := id hn
  have stC : ce.locals ∉ frs X.stack := fun hm => by
    have q := K.stack.mem hm
    have z := K.stkSub _ hm
    rcases List.mem_cons.mp z with e | e
    · exact f1 e
    · exact f2 e
  have bC := nb _ _ hoC stC
  obtain ⟨k1, k2, k3, oe, vs, T, oT, ts, he, hz, hd, h1v, hnT, hTe, hT, hdT, h3v⟩ := held
  have nin : ∀ {b : Addr}, B.get? b = none → b ≠ ce.locals := fun e q => by rw [q, bC] at e; cases e
  have hid : ∀ {b : Addr}, B.get? b = none → (PySem.W.hideAll B [ce.locals]).get? b = none := fun {b} e => by
    cases q : (PySem.W.hideAll B [ce.locals]).get? b with
    | none => rfl
    | some o => rw [PySem.W.of_hideAll _ q] at e; cases e
  have held2 : HandSPX.HeldZ (PySem.W.hideAll B [ce.locals]) (X.env :: X.outer) a (Zc cls d) X.env.locals g := by
    refine ⟨fun b o e => ?_, hid k2, ?_, oe, vs, T, oT, ts, (sb.2 _ (nin k2)).trans he, hz, hd, h1v, hid hnT, hTe, (sb.2 _ (nin hnT)).trans hT, hdT, h3v⟩
    · have nb' : b ≠ ce.locals := fun q => by rw [q, PySem.W.hideAll_none _ (by simp)] at e; cases e
      exact (sb.2 b nb').trans (k1 b o (PySem.W.of_hideAll _ e))
    · have go : ∀ l : List Env, h1.FunFrames B l → g.FunFrames (PySem.W.hideAll B [ce.locals]) l := fun l => by
        induction l with
        | nil => exact fun _ => trivial
        | cons e r ih => exact fun ⟨q1, ⟨L, o, q2, q3, q4, q5⟩, q6⟩ => ⟨q1, ⟨L, o, q2, hid q3, (sb.2 L (nin q3)).trans q4, q5⟩, ih q6⟩
      exact go _ k3
  have hne : ∀ {b : Addr} {o : Obj}, (PySem.W.hideAll sI.heap [ce.locals]).get? b = some o → b ≠ ce.locals ∧ sI.heap.get? b = some o := fun {b o} e =>
    ⟨(fun q => by rw [q, PySem.W.hideAll_none _ (by simp)] at e; cases e), PySem.W.of_hideAll _ e⟩
  have K2 : Inv X pins σ H2 { sI with heap := PySem.W.hideAll sI.heap [ce.locals] } := K.turned (t' := sI.toks) (fun b o hb e => PySem.W.hideAll_get _ e (by simpa using hb)) f0 f1 f4 f5 f6
  unfold PySem.passOn
  have heg : g.get? a = some oe := (sb.2 _ (nin k2)).trans he
  refine wpAny_bind (wpAny_field heg hd h1v ?_)
  rw [if_neg (show ¬ ((Value.ref T == Value.none) = true) from by simp)]
  have fin : wpAny (model X.prog X.w) X.A (setFlight (.ref a) ce.frame) (fun _ s4 => wpAny (model X.prog X.w) X.A (throw (.ref a) : Sem Value) (fun _ _ => False) X.xe s4) X.xe { z with heap := g } := by
    rw [cF, hf]
    refine HandSPX.setFlight_onZ held2 fun h4 held4 up4 => wpAny_throw (tk _ _ ?_)
    refine ⟨a, PySem.W.hideAll B [ce.locals], { sI with heap := PySem.W.hideAll sI.heap [ce.locals] }, pins, σ, H2, cls, d, rfl, K2, fun b o e hb => ?_, fun b o e hnf => ?_, .inr (.inr (by rw [hs]; exact held4)), na, os, ag, hW _ _ _ w⟩
    · obtain ⟨n1, e1⟩ := hne e
      exact PySem.W.hideAll_get _ (nb b o e1 hb) (by simpa using n1)
    · obtain ⟨n1, e1⟩ := hne e
      obtain ⟨sl, q⟩ := up b o e1 hnf
      obtain ⟨sl2, q2⟩ := up4 b _ ((sb.2 b n1).trans q) hnf
      exact ⟨sl2, q2⟩
  first
    | exact wpAny_bind (wpAny_pure (wpAny_bind fin))
    | exact wpAny_bind fin

/-- the block, what leaves its item told by E -/
abbrev Cx.item (X : Cx) (E : XK) (s : Shared) (H : Hp) (scope : Scope) (cl : List (Str × Addr)) (C : Addr) (fp : List Addr) : Cx := (X.blk s H scope (compEnvC scope cl C X.env) fp).wish (Let (X.blk s H scope (compEnvC scope cl C X.env) fp) E)
theorem lcX_core {s : Shared} {H : Hp} {Q : VK} {elt tg iter : Expr} {ifs : List Expr} {scope : Scope} {own : List (Str × Nat)} {pos pos' : Pos} {wi : TI} {g : TG} {tt : TT} {te : TE} {use : Option (Value → Sem Unit)} {Qf : Value → Shared → Prop}
    (hs : X.stack = X.env :: X.outer) (hf : X.env.frame = some X.env.locals) (hc : X.calm = true) (hN : X.N.Nodup) (tk : Takes X W) (hW : ∀ cls d σ H', E cls d H' → W cls d σ H') (I : Inv X pins σ H s) (hi : PI X tg iter wi) (ok : BlkOk X.N X.env.scope scope own)
    (hg : ∀ (s : Shared) (H : Hp) (C : Addr) (cl : List (Str × Addr)) (fp : List Addr), PG (X.blk s H scope (compEnvC scope cl C X.env) fp) tg g)
    (ht : ∀ (s : Shared) (H : Hp) (C : Addr) (cl : List (Str × Addr)) (fp : List Addr), PTs (X.blk s H scope (compEnvC scope cl C X.env) fp) ifs tt)
    (he : ∀ (s : Shared) (H : Hp) (C : Addr) (cl : List (Str × Addr)) (fp : List Addr), Passes (L2.CX X.prog X.w) (Cx.item X E s H scope cl C fp) E → PE (Cx.item X E s H scope cl C fp) elt te) (h1 : ∀ x, foldedSetIterable iter X.env x = pure x)
    (h : tLc wi g tt te (own.map (·.2)) σ H Q)
    (fin : ∀ D (ce : Env) z m H', Inv X pins σ H' z → Q (.ref D) H' → z.heap.Ns ce.locals m → FpOk X pins H' ce.locals → EndC (model X.prog X.w) X.A X.xe use Qf (.ref D) ce (.ok .next) z) :
    wpAny (model X.prog X.w) X.A (comprehension (.ListComp elt [⟨tg, iter, ifs, 0⟩] scope pos) scope X.env pos' (newList []) false (eval iter X.env) use) Qf X.xe s := by
  have free : ∀ y ∈ scope.names, y.2 = .free → ∃ c, X.env.cells.lookup y.1 = some c := fun y hy e => I.ok.has _ ((ok.free y hy e).imp id id)
  refine comp_out (use := use) rfl h1 (closure_ok free) ok.kind (fun y hy e => by rw [ok.uniq y hy, e]) (thn (hi.run pins s σ H _ I h) fun xv z1 hx => thn hx fun itv z2 h2 => ?_)
  obtain ⟨it, fp, tn, J, H2, rfl, I2, T, st2, f2, q⟩ := h2
  refine wpAny_newObj_type (newEnv_comp ?_) (Nat.zero_le _)
  obtain ⟨D, hD⟩ : ∃ D, D = z2.heap.objs.size := ⟨_, rfl⟩
  rw [← hD]
  obtain ⟨V, ⟨m0, v0⟩, turn⟩ := q D (I2.hok.fresh (Nat.le_of_eq hD.symm))
  obtain ⟨z3, h3⟩ : ∃ z3 : Shared, z3 = { z2 with heap := z2.heap.push { cls := .type "list", data := .seq ([] : List Value).toArray } } := ⟨_, rfl⟩
  rw [← h3]
  have e3 : z3.heap = z2.heap.push { cls := .type "list", data := .seq ([] : List Value).toArray } := by rw [h3]
  have I3 : Inv X pins σ (upd H2 D (.lst [])) z3 := by
    rw [h3, hD]
    exact I2.laid (t' := z2.toks) (fun b o e => Heap.get?_push_of_some _ e) (Nat.le_refl _) ⟨Nat.zero_le _, [], 0, .nil, Heap.get?_push_size _ rfl⟩
  have lt : ∀ b ∈ fp, b < z2.heap.objs.size := fun b hb => (T.obj _ _ st2 b hb).elim fun o r => Heap.lt_size r.1
  have f3 : ∀ b ∈ fp, FpOk X pins (upd H2 D (.lst [])) b ∧ b < z3.heap.objs.size := fun b hb => ⟨⟨by rw [upd_ne (by rw [hD]; exact Nat.ne_of_lt (lt b hb))]; exact (f2 b hb).1, (f2 b hb).2⟩, by rw [e3, Heap.size_push]; exact Nat.lt_succ_of_lt (lt b hb)⟩
  have st3 : tn 0 z3.heap := T.keep _ _ _ st2 fun b _ o e => by rw [e3]; exact Heap.get?_push_of_some _ e
  have I4 := block_start I3 ok hN f3
  have A1 := hg z3 (upd H2 D (.lst [])) z3.heap.objs.size (cellsFrom (z3.heap.objs.size + 1) scope.names (cloFrom X.env.cells scope.names [])) fp
  have A2 := ht z3 (upd H2 D (.lst [])) z3.heap.objs.size (cellsFrom (z3.heap.objs.size + 1) scope.names (cloFrom X.env.cells scope.names [])) fp
  have A3 := he z3 (upd H2 D (.lst [])) z3.heap.objs.size (cellsFrom (z3.heap.objs.size + 1) scope.names (cloFrom X.env.cells scope.names [])) fp Let.passes
  show codeAny _ _ (.compStart _ 0 (.ref it) (.ref D) (compEnvC scope (cellsFrom (z3.heap.objs.size + 1) scope.names (cloFrom X.env.cells scope.names [])) z3.heap.objs.size X.env))
    (EndC (model X.prog X.w) X.A X.xe use Qf (.ref D) (compEnvC scope (cellsFrom (z3.heap.objs.size + 1) scope.names (cloFrom X.env.cells scope.names [])) z3.heap.objs.size X.env)) { z3 with heap := pushCells (z3.heap.push { cls := .type "dict", data := .dict #[] }) scope.names }
  unfold Cx.item at A3
  obtain ⟨ce, hce⟩ : ∃ ce, ce = compEnvC scope (cellsFrom (z3.heap.objs.size + 1) scope.names (cloFrom X.env.cells scope.names [])) z3.heap.objs.size X.env := ⟨_, rfl⟩
  rw [← hce] at I4 A1 A2 A3 ⊢
  have cL : ce.locals = z3.heap.objs.size := by rw [hce]; rfl
  have cF : ce.frame = X.env.frame := by rw [hce]; rfl
  obtain ⟨H3, hH3⟩ : ∃ H3, H3 = upd H2 D (.lst []) := ⟨_, rfl⟩
  rw [← hH3] at I3 I4 A1 A2 A3 v0 f3
  obtain ⟨z4, h4⟩ : ∃ z4 : Shared, z4 = { z3 with heap := pushCells (z3.heap.push { cls := .type "dict", data := .dict #[] }) scope.names } := ⟨_, rfl⟩
  rw [← h4] at I4 ⊢
  have st4 : tn 0 z4.heap := T.keep _ _ _ st3 fun b _ o e => by rw [h4]; exact pushCells_keeps _ _ _ _ (Heap.get?_push_of_some _ e)
  have stat : ∀ {σ' : L2.St} {H' : Hp} {s' : Shared}, Inv (X.blk z3 H3 scope ce fp) [] σ' H' s' → (∀ b ∈ fp, H' b = none) → ∀ b ∈ fp, FpOk (X.blk z3 H3 scope ce fp) [] H' b := fun {σ' H' s'} J n b hb =>
    ⟨n b hb, (J.ok.exf b hb).1, J.ok.exfs b hb, .inl hb, fun x c e => (J.ok.exf b hb).2 x c e, fun p hp => by cases hp⟩
  have loop : codeAny (model X.prog X.w) X.A (.compLoop (.ListComp elt [⟨tg, iter, ifs, 0⟩] scope pos) 0 (.ref it) (.ref D) ce) (EndC (model X.prog X.w) X.A X.xe use Qf (.ref D) ce) z4 := by
    refine compLoop_any (fun n y => ∃ i H', Inv (X.blk z3 H3 scope ce fp) [] (wipe σ (own.map (·.2))) H' y ∧ tn i y.heap ∧ (∀ b ∈ fp, H' b = none) ∧ V i n H') ?_ m0 ⟨0, H3, I4, st4, fun b hb => (f3 b hb).1.1, v0⟩
    rintro n z5 ⟨i, H5, I5, st5, n5, v5⟩
    rcases turn i n H5 v5 with ⟨stop, qq⟩ | ⟨more, Nx, hNx, step⟩
    · refine thnF (T.done (X.blk z3 H3 scope ce fp) rfl rfl rfl hc i [] z5 _ H5 (fun _ _ => False) I5 (stat I5 n5) st5 stop) fun r z6 ⟨hr, I6⟩ => ?_
      subst hr
      have I7 : Inv X pins σ H5 z6 := I3.call' (ch := fp) I6.os I6.base I6.hok I6.bare fun b hb => ⟨(f3 b hb).1.2.2.2.1, (f3 b hb).1.2.1, (f3 b hb).1.2.2.2.2.1, (f3 b hb).1.2.2.2.2.2⟩
      obtain ⟨m, hn, _⟩ := I6.loc
      have nC : H5 z3.heap.objs.size = none := by rw [← cL]; exact I6.free
      have fC := I3.fpOk (Nat.le_refl _) nC
      rw [← cL] at fC
      exact fin D ce z6 m H5 I7 qq hn fC
    · refine thnF (T.item (X.blk z3 H3 scope ce fp) rfl rfl rfl hc i [] z5 _ H5 (fun _ _ => False) I5 (stat I5 n5) st5 more) fun r z6 ⟨u, hr, h6⟩ => ?_
      subst hr
      refine thnF h6 fun _ z7 ⟨x, H7, I7, r7, y7, st7, n7⟩ => ?_
      refine thnF (A1.run _ z7 _ H7 x u _ (I7.pinned (stat I7 n7) (T.obj _ _ st7)) r7 (step x H7 y7)) fun _ z8 ⟨σ8, H8, I8, w8, q8⟩ => thnF (A2.run _ z8 σ8 H8 _ I8 q8) fun b z9 ⟨H9, I9, q9⟩ => ?_
      have next : ∀ {y : Shared} {H' : Hp}, Inv (X.blk z3 H3 scope ce fp) ([] ++ pinsAt fp z7.heap) σ8 H' y → Nx H' → ∃ m, m < n ∧ ∃ i H', Inv (X.blk z3 H3 scope ce fp) [] (wipe σ (own.map (·.2))) H' y ∧ tn i y.heap ∧ (∀ b ∈ fp, H' b = none) ∧ V i m H' := fun {y H'} J nx => by
        obtain ⟨m', lm, v'⟩ := hNx H' nx
        have pin : ∀ b ∈ fp, ∀ o, z7.heap.get? b = some o → y.heap.get? b = some o ∧ H' b = none := fun b hb o e => ⟨(J.pin (b, o) (List.mem_append_right _ (List.mem_append_right _ (mem_pinsAt hb e)))).1, (J.pin (b, o) (List.mem_append_right _ (List.mem_append_right _ (mem_pinsAt hb e)))).2.1⟩
        refine ⟨m', lm, i + 1, H', (J.unpinned (pins := [])).weak (by rw [← w8, wipe_length]) (fun j v e => by rw [← w8] at e; exact (wipe_some e).1), T.keep _ _ _ st7 fun b hb o e => (pin b hb o e).1, fun b hb => ?_, v'⟩
        obtain ⟨o, e, _⟩ := T.obj _ _ st7 b hb
        exact (pin b hb o e).2
      cases b with
      | false =>
        simp only [Bool.false_eq_true, if_false] at q9 ⊢
        exact next I9 q9
      | true =>
        simp only [if_true] at q9 ⊢
        refine wpAny_mono (A3.run _ z9 σ8 H9 _ (I9.wish _) q9) (fun v z10 ⟨yv, H10, I10, r10, acc, hD10, hz10, nx⟩ => ?_) fun x y l => lets_out hs hf tk (fun cls d H' => hW cls d σ H') I3 (fun b hb => (f3 b hb).1) cL cF l
        exact app_ok (X := X.blk z3 H3 scope ce fp) I10.unwish hD10 hz10 r10 fun z11 I11 => next I11 nx
  exact codeAny_compStart_list loop (T.self X.A 0 _ _ _ st4 loop)
theorem pe_lcX {elt tg iter : Expr} {ifs : List Expr} {scope : Scope} {own : List (Str × Nat)} {pos : Pos} {wi : TI} {g : TG} {tt : TT} {te : TE} (hs : X.stack = X.env :: X.outer) (hf : X.env.frame = some X.env.locals) (hc : X.calm = true) (hN : X.N.Nodup) (tk : Takes X W) (hW : ∀ cls d σ H', E cls d H' → W cls d σ H')
    (hi : PI X tg iter wi) (ok : BlkOk X.N X.env.scope scope own) (hg : ∀ (s : Shared) (H : Hp) (C : Addr) (cl : List (Str × Addr)) (fp : List Addr), PG (X.blk s H scope (compEnvC scope cl C X.env) fp) tg g)
    (ht : ∀ (s : Shared) (H : Hp) (C : Addr) (cl : List (Str × Addr)) (fp : List Addr), PTs (X.blk s H scope (compEnvC scope cl C X.env) fp) ifs tt)
    (he : ∀ (s : Shared) (H : Hp) (C : Addr) (cl : List (Str × Addr)) (fp : List Addr), Passes (L2.CX X.prog X.w) (Cx.item X E s H scope cl C fp) E → PE (Cx.item X E s H scope cl C fp) elt te) (h1 : ∀ x, foldedSetIterable iter X.env x = pure x := by intro _; rfl) :
    PE X (.ListComp elt [⟨tg, iter, ifs, 0⟩] scope pos) (tLc wi g tt te (own.map (·.2))) := by
  refine ⟨fun pins s σ H Q I h => ?_⟩
  rw [eval_ListComp]
  refine lcX_core hs hf hc hN tk hW I hi ok hg ht he h1 h fun D ce z m H' J q hn ⟨f0, f1, f2, f3, f4, f5⟩ => ⟨m, hn, fun g sb => ?_⟩
  exact ⟨.ref D, H', J.turned (t' := z.toks) (fun b o hb e => (sb.2 b hb).trans e) f0 f1 f3 f4 f5, rfl, q⟩

/-- y = [..], y a local -/
theorem ps_setLcX {i : Nat} {y : Str} {py : Pos} {elt tg iter : Expr} {ifs : List Expr} {scope : Scope} {own : List (Str × Nat)} {pos spos : Pos} {wi : TI} {g : TG} {tt : TT} {te : TE} (hs : X.stack = X.env :: X.outer) (hf : X.env.frame = some X.env.locals) (hc : X.calm = true) (hN : X.N.Nodup) (tk : Takes X W) (hW : ∀ cls d σ H', E cls d H' → W cls d σ H')
    (hy : X.N[i]? = some y) (hyl : X.env.scope.names.lookup y = some .local) (sw : swapsWith (.ListComp elt [⟨tg, iter, ifs, 0⟩] scope pos) (some (.Name y py)) spos.line X.env = pure true)
    (hi : PI X tg iter wi) (ok : BlkOk X.N X.env.scope scope own) (hg : ∀ (s : Shared) (H : Hp) (C : Addr) (cl : List (Str × Addr)) (fp : List Addr), PG (X.blk s H scope (compEnvC scope cl C X.env) fp) tg g)
    (ht : ∀ (s : Shared) (H : Hp) (C : Addr) (cl : List (Str × Addr)) (fp : List Addr), PTs (X.blk s H scope (compEnvC scope cl C X.env) fp) ifs tt)
    (he : ∀ (s : Shared) (H : Hp) (C : Addr) (cl : List (Str × Addr)) (fp : List Addr), Passes (L2.CX X.prog X.w) (Cx.item X E s H scope cl C fp) E → PE (Cx.item X E s H scope cl C fp) elt te) (h1 : ∀ x, foldedSetIterable iter X.env x = pure x := by intro _; rfl) :
    PS X (.Assign [.Name y py] (.ListComp elt [⟨tg, iter, ifs, 0⟩] scope pos) spos) (tAsg (tLc wi g tt te (own.map (·.2))) (gName i)) := by
  refine ⟨fun pins s σ H D I h => ?_⟩
  rw [exec_Assign_Name_used _ _ _ _ sw]
  have h' : tLc wi g tt te (own.map (·.2)) σ H (fun x H1 => gName i x σ H1 D.nx) := h
  refine wpAny_bind (wpAny_standAt (wpAny_bind (wpAny_bind (thn (lcX_core (Qf := fun _ z => SP X pins D .next z) hs hf hc hN tk hW I hi ok hg ht he h1 h' fun L ce z m H' J q hn ⟨f0, f1, f2, f3, f4, f5⟩ => ?_) fun _ z q => wpAny_pure (wpAny_pure q)))))
  show wpAny _ _ (assign (.Name y py) X.env (.ref L)) _ _ _
  refine wpAny_assign_Name (store_ok2 (v := V.ref L) J hN hy (.inl hyl) rfl (fun z2 I2 ⟨a, sb, ha⟩ => ?_) (.inr hyl))
  have ne : ce.locals ≠ a := ha.elim (fun e => by rw [e]; exact f1) fun e q => f4 y a e q.symm
  exact ⟨m, hn.sameBut sb ne, fun g sb3 => ⟨_, H', I2.turned (t' := z2.toks) (fun b o hb e => (sb3.2 b hb).trans e) f0 f1 f3 f4 f5, q⟩⟩
end
/-- a def that raises, called within a try -/
theorem pe_calS {X : Cx} {CX : CXT} {x : Str} {k : Nat} {ps : List Str} {sp : Sp} {ES : L2.St → XK} {e : Expr} {es : List Expr} {t : TA} {p pos : Pos} (c : Cal X.prog X.w X.K X.mg X.base CX k x ps sp) (hr : Room k X.A) (hx : ∀ σ, PassesAt CX X σ (ES σ)) (ha : PA X (e :: es) t) (hg : Gl X x := by rfl) (hdb : (x == ("__debug__" : Str)) = false := by decide)
    (he : starEach (e :: es) X.env = (false, eval e X.env) :: starEach es X.env := by rfl) (hpl : (backTo pos (starEach es X.env)).any (·.1) = false := by rfl) :
    PE X (.Call (.Name x p) (e :: es) [] pos) (tCallS sp ES t) := by
  obtain ⟨f, fd, F, hm, hk, hb⟩ := c.ex
  exact pe_callS F hr hg hm hk hb hx ha hdb he hpl
/-- isinstance of the error that a suite holds, whatever its class -/
def rIsE2 (K : PySem.W.Frag) (cls : Value) (d : Option Addr) (a : Addr) : List V → Hp → VK → Prop := fun xs H Q => ∃ D : Addr, cls = .ref D ∧ d = none ∧ ExcC K D ∧ rIsE K D a xs H Q
theorem call_isE2 {X : Cx} {a : Addr} {cls : Value} {d : Option Addr} {oe : Obj} {pn : List (Addr × Obj)} (hz : Zc cls d oe) (hf : ∃ vs, oe.data = .fields vs) : CallR (X.suite a ((a, oe) :: pn)) (.builtin "isinstance") (rIsE2 X.K cls d a) := by
  intro pins s σ H xs us Q I r h
  obtain ⟨D, rfl, rfl, C, h⟩ := h
  exact call_isE C hz hf pins s σ H xs us Q I r h
end Of

set_option Elab.async false
set_option linter.all false
set_option maxRecDepth 100000
set_option maxHeartbeats 4000000
/-! Deeds as texts: written, and read back; what comprehensions of texts make. -/
namespace Of
open PySem PySem.Spec PyProof.Rows L2 NumText TL
/-! ### all, or none -/
def seqO {α β : Type} (f : α → Option β) : List α → Option (List β)
  | [] => some []
  | x :: r => match f x, seqO f r with
    | some y, some ys => some (y :: ys)
    | _, _ => none
section
variable {α β : Type} {f : α → Option β}
theorem seqO_bad : ∀ {l : List α} {x : α}, x ∈ l → f x = none → seqO f l = none
  | y :: r, x, h, e => by
    unfold seqO
    rcases List.mem_cons.mp h with rfl | h
    · rw [e]
    · rw [seqO_bad h e]
      cases f y <;> rfl
theorem seqO_snoc : ∀ {l : List α} {ys : List β} {x : α} {y : β}, seqO f l = some ys → f x = some y → seqO f (l ++ [x]) = some (ys ++ [y])
  | [], ys, x, y, h, e => by
    cases h
    show (match f x, some [] with | some y, some ys => some (y :: ys) | _, _ => none) = _
    rw [e]
    rfl
  | z :: r, ys, x, y, h, e => by
    unfold seqO at h
    cases hz : f z with
    | none => rw [hz] at h; cases h
    | some v =>
      cases hr : seqO f r with
      | none => rw [hz, hr] at h; cases h
      | some vs =>
        rw [hz, hr] at h
        cases h
        show (match f z, seqO f (r ++ [x]) with | some y, some ys => some (y :: ys) | _, _ => none) = _
        rw [hz, seqO_snoc hr e]
        rfl
theorem seqO_len : ∀ {l : List α} {ys : List β}, seqO f l = some ys → ys.length = l.length
  | [], ys, h => by cases h; rfl
  | z :: r, ys, h => by
    unfold seqO at h
    cases hz : f z with
    | none => rw [hz] at h; cases h
    | some v =>
      cases hr : seqO f r with
      | none => rw [hz, hr] at h; cases h
      | some vs =>
        rw [hz, hr] at h
        cases h
        rw [List.length_cons, List.length_cons, seqO_len hr]
theorem seqO_map {g : β → α} : ∀ {ys : List β}, (∀ y ∈ ys, f (g y) = some y) → seqO f (ys.map g) = some ys
  | [], _ => rfl
  | y :: r, h => by
    show (match f (g y), seqO f (r.map g) with | some y, some ys => some (y :: ys) | _, _ => none) = _
    rw [h y (.head _), seqO_map fun z hz => h z (.tail _ hz)]
theorem seqO_all : ∀ {l : List α} {ys : List β}, seqO f l = some ys → ∀ x ∈ l, ∃ y, f x = some y
  | z :: r, ys, h, x, hx => by
    cases hz : f x with
    | some y => exact ⟨y, rfl⟩
    | none => rw [seqO_bad hx hz] at h; cases h
end
/-! ### numbers, lines and deeds in texts -/
def numB (z : Str) : Bool := decide (z = "0") || (decide (1 ≤ z.length) && decide (z.length ≤ 30) && !decide (z.cps.toList.head? = some 48) && z.cps.toList.all fun c => decide (48 ≤ c) && decide (c ≤ 57))
def numOf (z : Str) : Option Int := if numB z = true then some (digitsVal z.cps.toList : Nat) else none
def line4 : List Str → Option LineT
  | [a, b, c, d] => if itemOk a = true then (match numOf b, numOf c, numOf d with | some p, some q, some r => some ⟨a, p, q, r⟩ | _, _, _ => none) else none
  | _ => none
def lineOf (z : Str) : Option LineT := line4 (Txt.split z " ")
inductive TD where
  | ord (ls : List LineT)
  | num (w : Str) (ns : List Int)
def TD.d : TD → PyData
  | .ord ls => .tuple [.str "order", .list (ls.map lineD)]
  | .num w ns => .tuple (.str w :: ns.map .int)
def deedOf (z : Str) : Option TD :=
  if (Txt.partition z " ").1 = "order" then (seqO lineOf (Txt.split (Txt.partition z " ").2.2 ", ")).map .ord
  else if partsOf (Txt.partition z " ").1 = some (Txt.split z " ").length then (seqO numOf (Txt.split z " ").tail).map (.num (Txt.partition z " ").1) else none
def numT (n : Int) : Str := Str.ofString (toString n)
def lineT (t : LineT) : Str := Txt.join " " [t.item, numT t.pieces, numT t.cents, numT t.pack]
def textOf : TD → Str
  | .ord ls => "order " ++ Txt.join ", " (ls.map lineT)
  | .num w ns => Txt.join " " (w :: ns.map numT)
theorem cps_num {n : Nat} : (numT (n : Int)).cps.toList = numL n := tl_num n
theorem num_nat {n : Int} (h0 : 0 ≤ n) : ∃ k : Nat, n = (k : Int) := ⟨n.toNat, by omega⟩
theorem numT_len {n : Int} (h0 : 0 ≤ n) (h1 : n < 10 ^ 30) : (numT n).length ≤ 30 := toString_length_le h0 (by decide) h1
theorem digits_all {l : List Nat} (h : AllDigits l) : (l.all fun c => decide (48 ≤ c) && decide (c ≤ 57)) = true := by
  rw [List.all_eq_true]
  intro c hc
  obtain ⟨a, b⟩ := h c hc
  rw [decide_eq_true a, decide_eq_true b]
  rfl
theorem numL_head : ∀ n : Nat, 0 < n → (numL n).head? ≠ some 48 := fun n => by
  induction n using Nat.strongRecOn with
  | _ n ih =>
    intro h0
    by_cases h : n < 10
    · rw [numL_lt h]
      simp only [List.head?_cons, ne_eq, Option.some.injEq]
      omega
    · rw [numL_step (by omega), List.head?_append]
      have := ih (n / 10) (by omega) (by omega)
      cases e : (numL (n / 10)).head? with
      | none => exact absurd (List.head?_eq_none_iff.mp e) (numL_ne _)
      | some c => rw [e] at this; exact this
theorem num_back {n : Int} (h0 : 0 ≤ n) (h1 : n < 10 ^ 30) : numOf (numT n) = some n := by
  have hl := numT_len h0 h1
  obtain ⟨k, rfl⟩ := num_nat h0
  have e := cps_num (n := k)
  unfold numOf
  rw [if_pos, e, numL_val]
  unfold numB
  by_cases hk : k = 0
  · subst hk
    rw [show decide (numT ((0 : Nat) : Int) = "0") = true from by decide +kernel]
    rfl
  · have hp : 0 < (numL k).length := List.length_pos_iff.mpr (numL_ne k)
    rw [decide_eq_true hl, e, digits_all (numL_digits k), decide_eq_false (numL_head k (by omega)), decide_eq_true (show 1 ≤ (numT (k : Int)).length by rw [len_cps, e]; omega), Bool.or_eq_true]
    exact .inr rfl
theorem num_free {n : Int} {s : Nat} (h0 : 0 ≤ n) (h : s < 48 ∨ 57 < s) : s ∉ (numT n).cps.toList := by
  obtain ⟨k, rfl⟩ := num_nat h0
  rw [cps_num]
  exact numL_free h
theorem item_free {z : Str} {s : Nat} (h : itemOk z = true) (hs : s < 97 ∨ 122 < s) : s ∉ z.cps.toList := fun hm => by
  unfold itemOk at h
  rw [Bool.and_eq_true, List.all_eq_true] at h
  have := h.2 s hm
  rw [Bool.and_eq_true, decide_eq_true_eq, decide_eq_true_eq] at this
  omega
/-- numbers that are written with thirty figures at most -/
def Fig (n : Int) : Prop := 0 ≤ n ∧ n < 10 ^ 30
structure LineT.Wr (t : LineT) : Prop where
  i : itemOk t.item = true
  p : Fig t.pieces
  c : Fig t.cents
  k : Fig t.pack
theorem blank_cps : TL.tl (" " : Str) = 32 :: [] := by decide +kernel
theorem comma_cps : TL.tl (", " : Str) = 44 :: [32] := by decide +kernel
theorem parts_free {s : Nat} {t : LineT} (W : t.Wr) (hs : s < 48 ∨ 122 < s) : ∀ p ∈ [t.item, numT t.pieces, numT t.cents, numT t.pack], s ∉ TL.tl p := by
  intro p hp
  simp only [List.mem_cons, List.not_mem_nil, or_false] at hp
  rcases hp with rfl | rfl | rfl | rfl
  · exact item_free W.i (by omega)
  · exact num_free W.p.1 (by omega)
  · exact num_free W.c.1 (by omega)
  · exact num_free W.k.1 (by omega)
theorem line_back {t : LineT} (W : t.Wr) : lineOf (lineT t) = some t := by
  unfold lineOf lineT
  rw [split_join blank_cps (by decide +kernel) (by simp) (parts_free W (by omega))]
  unfold line4
  dsimp only
  rw [if_pos W.i, num_back W.p.1 W.p.2, num_back W.c.1 W.c.2, num_back W.k.1 W.k.2]
theorem joinL_free {s : Nat} {S : List Nat} (hS : s ∉ S) : ∀ {ps : List (List Nat)}, (∀ p ∈ ps, s ∉ p) → s ∉ joinL S ps
  | [], _ => by unfold joinL; simp
  | [p], h => by unfold joinL; exact h p (.head _)
  | p :: q :: r, h => by
    unfold joinL
    rw [List.mem_append, List.mem_append]
    rintro (z | z | z)
    · exact h p (.head _) z
    · exact hS z
    · exact joinL_free hS (fun x hx => h x (.tail _ hx)) z
theorem join_free {s : Nat} {y : Str} (hS : s ∉ TL.tl y) {ps : List Str} (h : ∀ p ∈ ps, s ∉ TL.tl p) : s ∉ TL.tl (Txt.join y ps) := by
  rw [TL.join_eq, tl_join]
  refine joinL_free hS fun p hp => ?_
  obtain ⟨q, hq, rfl⟩ := List.mem_map.mp hp
  exact h q hq
theorem line_free {s : Nat} {t : LineT} (W : t.Wr) (hs : s < 48 ∨ 122 < s) (h32 : s ≠ 32) : s ∉ TL.tl (lineT t) := join_free (by rw [blank_cps]; simpa using h32) (parts_free W hs)
/-- a deed that is written -/
def TD.Wr : TD → Prop
  | .ord ls => ls ≠ [] ∧ ls.length ≤ 100 ∧ ∀ t ∈ ls, t.Wr
  | .num w ns => w ≠ "order" ∧ partsOf w = some (ns.length + 1) ∧ ∀ n ∈ ns, Fig n
theorem parts_word {w : Str} {k : Nat} (h : partsOf w = some k) : w = "order" ∨ w = "pay" ∨ w = "refund" ∨ w = "deliver" ∨ w = "back" ∨ w = "swap" ∨ w = "credit" ∨ w = "move" := by
  unfold partsOf at h
  by_cases h1 : w = "order"
  · exact .inl h1
  · rw [if_neg h1] at h
    by_cases h2 : w = "pay" ∨ w = "refund"
    · rcases h2 with h2 | h2
      · exact .inr (.inl h2)
      · exact .inr (.inr (.inl h2))
    · rw [if_neg h2] at h
      by_cases h3 : w = "deliver" ∨ w = "back" ∨ w = "swap" ∨ w = "credit" ∨ w = "move"
      · exact .inr (.inr (.inr h3))
      · rw [if_neg h3] at h; cases h
theorem word_free {w : Str} {k : Nat} (h : partsOf w = some k) : 32 ∉ TL.tl w := by
  rcases parts_word h with rfl | rfl | rfl | rfl | rfl | rfl | rfl | rfl <;> decide +kernel
theorem join_cons {y a b : Str} {r : List Str} : Txt.join y (a :: b :: r) = a ++ y ++ Txt.join y (b :: r) := str_ext (by
  rw [join_cons2, cps_app, cps_app])
theorem str_app3 {a b c : Str} : a ++ b ++ c = a ++ (b ++ c) := str_ext (by simp only [cps_app, List.append_assoc])
theorem deed_back {d : TD} (W : d.Wr) : deedOf (textOf d) = some d := by
  cases d with
  | ord ls =>
    obtain ⟨h0, _, h⟩ := W
    unfold deedOf textOf
    have e : Txt.partition ("order " ++ Txt.join ", " (ls.map lineT)) " " = (("order" : Str), (" " : Str), Txt.join ", " (ls.map lineT)) := by
      rw [show ("order " : Str) = "order" ++ " " from by decide +kernel]
      exact partition_app blank_cps (by decide +kernel)
    rw [e]
    dsimp only
    rw [if_pos rfl, split_join comma_cps (by decide +kernel) (by simpa using h0) (fun p hp => by
      obtain ⟨t, ht, rfl⟩ := List.mem_map.mp hp
      exact line_free (h t ht) (by omega) (by omega)), seqO_map fun t ht => line_back (h t ht)]
    rfl
  | num w ns =>
    obtain ⟨h0, h1, h⟩ := W
    cases ns with
    | nil =>
      have no : ∀ w : Str, (w = "order" ∨ w = "pay" ∨ w = "refund" ∨ w = "deliver" ∨ w = "back" ∨ w = "swap" ∨ w = "credit" ∨ w = "move") → partsOf w ≠ some 1 := by
        rintro w (rfl | rfl | rfl | rfl | rfl | rfl | rfl | rfl) <;> decide +kernel
      exact absurd h1 (no w (parts_word h1))
    | cons n r =>
      unfold deedOf textOf
      have e : Txt.partition (Txt.join " " (w :: (n :: r).map numT)) " " = (w, (" " : Str), Txt.join " " ((n :: r).map numT)) := by
        rw [List.map_cons, join_cons]
        exact partition_app blank_cps (word_free h1)
      have e2 : Txt.split (Txt.join " " (w :: (n :: r).map numT)) " " = w :: (n :: r).map numT := split_join blank_cps (by decide +kernel) (by simp) (fun p hp => by
        rcases List.mem_cons.mp hp with rfl | hp
        · exact word_free h1
        · obtain ⟨m, hm, rfl⟩ := List.mem_map.mp hp
          exact num_free (h m hm).1 (by omega))
      rw [e, e2]
      dsimp only
      rw [if_neg h0, if_pos (by rw [h1, List.length_cons, List.length_cons, List.length_map, List.length_cons]), List.tail_cons, seqO_map fun m hm => num_back (h m hm).1 (h m hm).2]
      rfl
/-! ### how long they are -/
theorem join_len (y : Str) : ∀ ps : List Str, (Txt.join y ps).length ≤ (ps.map (·.length)).sum + ps.length * y.length
  | [] => by rw [join_nil]; exact Nat.zero_le _
  | [p] => by
    rw [join_one]
    simp only [List.map_cons, List.map_nil, List.sum_cons, List.sum_nil]
    omega
  | p :: q :: r => by
    have ih := join_len y (q :: r)
    rw [join_cons, len_cps, cps_app, cps_app, List.length_append, List.length_append, ← len_cps, ← len_cps, ← len_cps, List.map_cons, List.sum_cons, List.length_cons, Nat.add_mul, Nat.one_mul]
    omega
theorem sum_le {k : Nat} : ∀ {ns : List Nat}, (∀ n ∈ ns, n ≤ k) → ns.sum ≤ ns.length * k
  | [], _ => Nat.zero_le _
  | n :: r, h => by
    have := h n (.head _)
    have := sum_le fun m hm => h m (.tail _ hm)
    rw [List.sum_cons, List.length_cons, Nat.add_mul, Nat.one_mul]
    omega
theorem item_len {z : Str} (h : itemOk z = true) : z.length ≤ 12 := by
  unfold itemOk at h
  rw [Bool.and_eq_true, Bool.and_eq_true, decide_eq_true_eq, decide_eq_true_eq] at h
  exact h.1.2
theorem parts_len {t : LineT} (W : t.Wr) : ∀ p ∈ [t.item, numT t.pieces, numT t.cents, numT t.pack], p.length ≤ 30 := by
  intro p hp
  simp only [List.mem_cons, List.not_mem_nil, or_false] at hp
  rcases hp with rfl | rfl | rfl | rfl
  · have := item_len W.i; omega
  · exact numT_len W.p.1 W.p.2
  · exact numT_len W.c.1 W.c.2
  · exact numT_len W.k.1 W.k.2
theorem lineT_len {t : LineT} (W : t.Wr) : (lineT t).length ≤ 124 := by
  have h := join_len " " [t.item, numT t.pieces, numT t.cents, numT t.pack]
  have := sum_le (k := 30) (ns := ([t.item, numT t.pieces, numT t.cents, numT t.pack] : List Str).map (·.length)) (fun n hn => by
    obtain ⟨p, hp, rfl⟩ := List.mem_map.mp hn
    exact parts_len W p hp)
  rw [show ((" " : Str)).length = 1 from by decide +kernel] at h
  simp only [List.length_map, List.length_cons, List.length_nil] at h this
  unfold lineT
  omega
theorem log2_fig {n : Int} (h : Fig n) : n.natAbs.log2 < 1920 := by
  obtain ⟨k, rfl⟩ := num_nat h.1
  have h2 := h.2
  by_cases e : k = 0
  · subst e; decide
  · rw [Int.natAbs_natCast, Nat.log2_lt e]
    have : k < 10 ^ 30 := by omega
    exact Nat.lt_of_lt_of_le this (by decide +kernel)
/-! ### rules -/
theorem kc_str {X : Cx} : CallR X (.type "str") (fun xs H Q => (∃ i, xs = [.int i] ∧ i.natAbs.log2 < 1920 ∧ Q (.str (numT i)) H) ∨ ∃ a, xs = [.str a] ∧ Q (.str a) H) := by
  intro pins s σ H xs us Q I r h
  rcases h with h | h
  · exact call_str_int pins s σ H xs us Q I r h
  · exact SkE.call_str_str pins s σ H xs us Q I r h
section
variable {K : PySem.W.Frag} {a D : Addr} {xs zs : List V} {fp : Addr → Prop}
/-- [e for x in a tuple], the items plain values -/
theorem lcP_tup {te : TE} {σ : L2.St} {j : Nat} {H1 : Hp} {Qd : Hp → Prop} (hl : xs.length = zs.length) (hz : zs.length ≤ 100000) (hS : SqT K H1 a xs) (hD : H1 D = none)
    (turn : ∀ (i : Nat) (x z : V) (H : Hp) (R : VK), xs[i]? = some x → zs[i]? = some z → Same H1 H → (∀ H', Same H H' → R z H') → te ((wipe σ [j]).set j (some x)) H R)
    (fin : ∀ H', Same H1 H' → H' D = some (.lst zs) → Qd H') :
    ∃ W : Nat → Nat → Hp → Prop, (∃ m, W 0 m (upd H1 D (.lst []))) ∧ ∀ i m H, W i m H →
      ((Itt K a).stop i H ∧ Qd H) ∨ ((Itt K a).go i H ∧ ∃ Nx : Hp → Prop, (∀ H', Nx H' → ∃ m', m' < m ∧ W (i + 1) m' H') ∧ ∀ x H', (Itt K a).yld i H x H' → gName j x (wipe σ [j]) H' fun σ2 H2 => wipe σ2 [j] = wipe σ [j] ∧ tYes σ2 H2 fun b H3 =>
        if b = true then te σ2 H3 fun y H4 => ∃ acc, H4 D = some (.lst acc) ∧ acc.length < sizeLine ∧ Nx (upd H4 D (.lst (acc ++ [y]))) else Nx H3) := by
  refine lc_tup (K := K) (a := a) (xs := xs) (fun i H => Same H1 H ∧ H D = some (.lst (zs.take i))) ⟨same_new hD, upd_same⟩ (fun i H _ ⟨s, _⟩ => same_t s hS) ?_ ?_
  · rintro i x H hx ⟨s, hd⟩
    have hi : i < zs.length := by
      have := (List.getElem?_eq_some_iff.mp hx).1
      omega
    refine ⟨wipe1, turn i x zs[i] H _ hx (List.getElem?_eq_getElem hi) s fun H4 s4 => ⟨_, s4 _ _ hd, Evl.sz_lt (by rw [List.length_take]; omega), same_mut (s.trans s4) hD, ?_⟩⟩
    rw [upd_same, take_succ' (List.getElem?_eq_getElem hi)]
  · rintro H ⟨s, hd⟩
    rw [hl, List.take_length] at hd
    exact fin H s hd
/-- [e for x in a list], the items plain values -/
theorem lcP_list {te : TE} {σ : L2.St} {j : Nat} {H1 : Hp} {Qd : Hp → Prop} (hl : xs.length = zs.length) (hz : zs.length ≤ 100000) (hS : SqL K H1 a xs) (hD : H1 D = none)
    (turn : ∀ (i : Nat) (x z : V) (H : Hp) (R : VK), xs[i]? = some x → zs[i]? = some z → Same H1 H → (∀ H', Same H H' → R z H') → te ((wipe σ [j]).set j (some x)) H R)
    (fin : ∀ H', Same H1 H' → H' D = some (.lst zs) → Qd H') :
    ∃ W : Nat → Nat → Hp → Prop, (∃ m, W 0 m (upd H1 D (.lst []))) ∧ ∀ i m H, W i m H →
      ((Itl K a).stop i H ∧ Qd H) ∨ ((Itl K a).go i H ∧ ∃ Nx : Hp → Prop, (∀ H', Nx H' → ∃ m', m' < m ∧ W (i + 1) m' H') ∧ ∀ x H', (Itl K a).yld i H x H' → gName j x (wipe σ [j]) H' fun σ2 H2 => wipe σ2 [j] = wipe σ [j] ∧ tYes σ2 H2 fun b H3 =>
        if b = true then te σ2 H3 fun y H4 => ∃ acc, H4 D = some (.lst acc) ∧ acc.length < sizeLine ∧ Nx (upd H4 D (.lst (acc ++ [y]))) else Nx H3) := by
  refine lc_list (K := K) (a := a) (xs := xs) (fun i H => Same H1 H ∧ H D = some (.lst (zs.take i))) ⟨same_new hD, upd_same⟩ (fun i H _ ⟨s, _⟩ => same_l s hS) ?_ ?_
  · rintro i x H hx ⟨s, hd⟩
    have hi : i < zs.length := by
      have := (List.getElem?_eq_some_iff.mp hx).1
      omega
    refine ⟨wipe1, turn i x zs[i] H _ hx (List.getElem?_eq_getElem hi) s fun H4 s4 => ⟨_, s4 _ _ hd, Evl.sz_lt (by rw [List.length_take]; omega), same_mut (s.trans s4) hD, ?_⟩⟩
    rw [upd_same, take_succ' (List.getElem?_eq_getElem hi)]
  · rintro H ⟨s, hd⟩
    rw [hl, List.take_length] at hd
    exact fin H s hd
/-- .. over range(n) -/
theorem lcP_range {te : TE} {σ : L2.St} {j : Nat} {H1 : Hp} {Qd : Hp → Prop} {n : Nat} (hl : n = zs.length) (hz : zs.length ≤ 100000) (hD : H1 D = none)
    (turn : ∀ (i : Nat) (z : V) (H : Hp) (R : VK), i < n → zs[i]? = some z → Same H1 H → (∀ H', Same H H' → R z H') → te ((wipe σ [j]).set j (some (.int (0 + (i : Int))))) H R)
    (fin : ∀ H', Same H1 H' → H' D = some (.lst zs) → Qd H') :
    ∃ W : Nat → Nat → Hp → Prop, (∃ m, W 0 m (upd H1 D (.lst []))) ∧ ∀ i m H, W i m H →
      ((Itr 0 n).stop i H ∧ Qd H) ∨ ((Itr 0 n).go i H ∧ ∃ Nx : Hp → Prop, (∀ H', Nx H' → ∃ m', m' < m ∧ W (i + 1) m' H') ∧ ∀ x H', (Itr 0 n).yld i H x H' → gName j x (wipe σ [j]) H' fun σ2 H2 => wipe σ2 [j] = wipe σ [j] ∧ tYes σ2 H2 fun b H3 =>
        if b = true then te σ2 H3 fun y H4 => ∃ acc, H4 D = some (.lst acc) ∧ acc.length < sizeLine ∧ Nx (upd H4 D (.lst (acc ++ [y]))) else Nx H3) := by
  refine lc_range (lo := 0) (n := n) (fun i H => Same H1 H ∧ H D = some (.lst (zs.take i))) ⟨same_new hD, upd_same⟩ ?_ ?_
  · rintro i H hx ⟨s, hd⟩
    have hi : i < zs.length := by omega
    refine ⟨wipe1, turn i zs[i] H _ hx (List.getElem?_eq_getElem hi) s fun H4 s4 => ⟨_, s4 _ _ hd, Evl.sz_lt (by rw [List.length_take]; omega), same_mut (s.trans s4) hD, ?_⟩⟩
    rw [upd_same, take_succ' (List.getElem?_eq_getElem hi)]
  · rintro H ⟨s, hd⟩
    rw [hl, List.take_length] at hd
    exact fin H s hd
/-- [e for x in texts], each e a datum, or nothing behind it -/
theorem lcR_list {β : Type} {te : TE} {σ : L2.St} {j : Nat} {H1 : Hp} {Qd : Hp → Prop} (f : Str → Option β) (g : β → PyData) (ts : List Str) (hz : ts.length ≤ 100000) (hS : SqL K H1 a (ts.map V.str)) (hD : H1 D = none) (hf : Has fp H1)
    (turn : ∀ (x : Str) (H : Hp) (R : VK), x ∈ ts → Same H1 H → Has (And1 fp D) H → (∀ b y H', f x = some b → Same H H' → Dp K (off (And1 fp D) H') y (g b) → R y H') → te ((wipe σ [j]).set j (some (.str x))) H R)
    (fin : ∀ bs H' ys, seqO f ts = some bs → Same H1 H' → H' D = some (.lst ys) → DpAll K (off (And1 fp D) H') ys (bs.map g) → Dp K (off fp H') (.ref D) (.list (bs.map g)) → Qd H') :
    ∃ W : Nat → Nat → Hp → Prop, (∃ m, W 0 m (upd H1 D (.lst []))) ∧ ∀ i m H, W i m H →
      ((Itl K a).stop i H ∧ Qd H) ∨ ((Itl K a).go i H ∧ ∃ Nx : Hp → Prop, (∀ H', Nx H' → ∃ m', m' < m ∧ W (i + 1) m' H') ∧ ∀ x H', (Itl K a).yld i H x H' → gName j x (wipe σ [j]) H' fun σ2 H2 => wipe σ2 [j] = wipe σ [j] ∧ tYes σ2 H2 fun b H3 =>
        if b = true then te σ2 H3 fun y H4 => ∃ acc, H4 D = some (.lst acc) ∧ acc.length < sizeLine ∧ Nx (upd H4 D (.lst (acc ++ [y]))) else Nx H3) := by
  refine lc_list (K := K) (a := a) (xs := ts.map V.str) (fun i H => ∃ bs ys, seqO f (ts.take i) = some bs ∧ Same H1 H ∧ H D = some (.lst ys) ∧ DpAll K (off (And1 fp D) H) ys (bs.map g)) ⟨[], [], rfl, same_new hD, upd_same, .nil⟩ (fun i H _ ⟨_, _, _, s, _⟩ => same_l s hS) ?_ ?_
  · rintro i x H hx ⟨bs, ys, hb, s, hd, r⟩
    rw [List.getElem?_map] at hx
    cases e : ts[i]? with
    | none => rw [e] at hx; cases hx
    | some z =>
      rw [e] at hx
      have hx := Option.some.inj hx
      subst hx
      have hi : i < ts.length := (List.getElem?_eq_some_iff.mp e).1
      have hf1 : Has (And1 fp D) H := (hf.same s).and1 (by rw [hd]; exact fun z => nomatch z)
      refine ⟨wipe1, turn z H _ (List.mem_of_getElem? e) s hf1 fun b y H4 hz4 s4 r4 => ?_⟩
      have hd4 : H4 D = some (.lst ys) := s4 _ _ hd
      have hn := r.length
      have hm := seqO_len hb
      rw [List.length_map, hm, List.length_take] at hn
      refine ⟨ys, hd4, Evl.sz_lt (by omega), bs ++ [b], ys ++ [y], ?_, same_mut (s.trans s4) hD, upd_same, ?_⟩
      · rw [take_succ' e]; exact seqO_snoc hb hz4
      · rw [off_upd (Or.inr rfl), List.map_append]
        exact (r.same (off_mono s4)).append (.cons r4 .nil)
  · rintro H ⟨bs, ys, hb, s, hd, r⟩
    rw [List.length_map, List.take_length] at hb
    refine fin bs H ys hb s hd r (.lst (.inl (.inl ?_)) (r.same (off_less fun _ z => Or.inl z)))
    rw [off_out (hf.new hD), hd]
end
/-! ### what is cut out of a text -/
theorem spl_sub {S : List Nat} : ∀ {l : List Nat} {k : Nat} {acc p : List Nat}, p ∈ spl S k acc l → p.length ≤ acc.length + l.length ∧ ∀ c ∈ p, c ∈ acc ∨ c ∈ l
  | [], k, acc, p, h => by
    rw [spl_nil, List.mem_singleton] at h
    subst h
    exact ⟨Nat.le_refl _, fun c hc => .inl hc⟩
  | d :: r, k, acc, p, h => by
    cases k with
    | zero =>
      by_cases hp : pre S (d :: r) = true
      · rw [spl_hit hp] at h
        rcases List.mem_cons.mp h with rfl | h
        · exact ⟨Nat.le_add_right _ _, fun c hc => .inl hc⟩
        · obtain ⟨h1, h2⟩ := spl_sub h
          simp only [List.length_nil, List.length_cons] at h1 ⊢
          refine ⟨by omega, fun c hc => ?_⟩
          rcases h2 c hc with z | z
          · cases z
          · exact .inr (.tail _ z)
      · rw [spl_miss (Bool.eq_false_iff.mpr hp)] at h
        obtain ⟨h1, h2⟩ := spl_sub h
        rw [List.length_append] at h1
        simp only [List.length_cons, List.length_nil] at h1 ⊢
        refine ⟨by omega, fun c hc => ?_⟩
        rcases h2 c hc with z | z
        · rcases List.mem_append.mp z with z | z
          · exact .inl z
          · rw [List.mem_singleton.mp z]; exact .inr (.head _)
        · exact .inr (.tail _ z)
    | succ k =>
      have h : p ∈ spl S k acc r := h
      obtain ⟨h1, h2⟩ := spl_sub h
      simp only [List.length_cons]
      exact ⟨by omega, fun c hc => (h2 c hc).imp id fun z => .tail _ z⟩
/-- a text of plain signs, not too long -/
structure Plain (z : Str) : Prop where
  l : z.length ≤ 90000
  c : ∀ c ∈ z.cps.toList, c < 128
theorem Plain.ok {z : Str} (h : Plain z) : PyData.strOk z = true := by
  unfold PyData.strOk
  rw [Array.all_eq_true_iff_forall_mem]
  intro c hc
  have := h.c c (Array.mem_toList_iff.mpr hc)
  simp
  omega
theorem split_plain {z y : Str} (hy : TL.tl y ≠ []) (hk : y.cps.all (· < 256) = true) (h : Plain z) : ∀ p ∈ Txt.split z y, Plain p := fun p hp => by
  have e := split_spl z y hy (kind_ok hk)
  have m : TL.tl p ∈ spl (TL.tl y) 0 [] (TL.tl z) := by rw [← e]; exact List.mem_map.mpr ⟨p, hp, rfl⟩
  obtain ⟨h1, h2⟩ := spl_sub m
  have l1 := len_tl p
  have l2 := len_tl z
  have := h.l
  refine ⟨by simp only [List.length_nil] at h1; omega, fun c hc => ?_⟩
  rcases h2 c hc with q | q
  · cases q
  · exact h.c c q
theorem par_sub {S : List Nat} : ∀ {l acc a b : List Nat}, par S acc l = some (a, b) → (∀ c ∈ a, c ∈ acc ∨ c ∈ l) ∧ (∀ c ∈ b, c ∈ l) ∧ a.length ≤ acc.length + l.length ∧ b.length ≤ l.length
  | [], acc, a, b, h => by cases h
  | d :: r, acc, a, b, h => by
    by_cases hp : pre S (d :: r) = true
    · rw [par_hit hp] at h
      cases h
      exact ⟨fun c hc => .inl hc, fun c hc => List.mem_of_mem_drop hc, Nat.le_add_right _ _, by rw [List.length_drop]; omega⟩
    · rw [par_miss (Bool.eq_false_iff.mpr hp)] at h
      obtain ⟨h1, h2, h3, h4⟩ := par_sub h
      rw [List.length_append] at h3
      simp only [List.length_cons, List.length_nil] at h3 ⊢
      refine ⟨fun c hc => ?_, fun c hc => .tail _ (h2 c hc), by omega, by omega⟩
      rcases h1 c hc with z | z
      · rcases List.mem_append.mp z with z | z
        · exact .inl z
        · rw [List.mem_singleton.mp z]; exact .inr (.head _)
      · exact .inr (.tail _ z)
theorem plain_nil : Plain Str.empty := ⟨Nat.zero_le _, fun c hc => by cases hc⟩
theorem partition_plain {z y : Str} (hy : TL.tl y ≠ []) (h : Plain z) : Plain (Txt.partition z y).1 ∧ Plain (Txt.partition z y).2.2 := by
  have e := partition_par z y hy
  cases q : par (TL.tl y) [] (TL.tl z) with
  | none =>
    rw [q] at e
    rw [e]
    exact ⟨h, plain_nil⟩
  | some ab =>
    obtain ⟨a, b⟩ := ab
    rw [q] at e
    rw [e]
    obtain ⟨h1, h2, h3, h4⟩ := par_sub q
    have l2 := len_tl z
    have := h.l
    refine ⟨⟨by rw [len_tl]; show a.length ≤ _; simp only [List.length_nil] at h3; omega, fun c hc => ?_⟩, ⟨by rw [len_tl]; show b.length ≤ _; omega, fun c hc => h.c c (h2 c hc)⟩⟩
    rcases h1 c hc with q | q
    · cases q
    · exact h.c c q
/-! ### the one refusal -/
structure NoD (K : PySem.W.Frag) (mg : Str → Option Value) (cl : Str → Addr) : Prop where
  g : mg "NoDeed" = some (.ref (cl "NoDeed"))
  q : PySem.W.excIn K (cl "NoDeed") [.type "ValueError", .type "Exception", .type "BaseException", .type "object"] "ValueError.__new__" = true
  kp : PySem.W.keepIn K (.ref (cl "NoDeed")) = true
  sb : PySem.W.subIn K (.ref (cl "NoDeed")) (.type "BaseException") = some true
  ty : PySem.W.typeIn K (.ref (cl "NoDeed")) = some (.type "type")
theorem NoD.pmk {X : Cx} {cl : Str → Addr} (E : NoD X.K X.mg cl) (n : Str) (hn : n ∈ (["NoDeed"] : List Str)) {m : Str} {j : Nat} {p p2 pos : Pos} (hg : Gl X n := by rfl) (hdb : (n == ("__debug__" : Str)) = false := by decide) :
    PMk X (.Call (.Name n p) [.Constant (.str m) j p2] [] pos) (fun _ H Q => Q (.ref (cl n)) none H) := by
  have hn := List.mem_singleton.mp hn
  subst hn
  exact pmk_own PySem.F.excBase_ValueError E.q E.g E.kp (raises_own E.sb E.ty) hg hdb
structure ConT (mg : Str → Option Value) : Prop where
  k_MOST_LETTERS : ∃ t, mg "_MOST_LETTERS" = some (.int 12 t)
  k_MOST_FIGURES : ∃ t, mg "_MOST_FIGURES" = some (.int 30 t)
structure DTup (K : PySem.W.Frag) (mg : Str → Option Value) (aD : Addr) : Prop where
  gD : mg "DEEDS" = some (.ref aD)
  dD : ∀ H, Dp K H (.ref aD) (.tuple deedsT)
/-! ### drawn numbers, of which only a bound is known -/
theorem lcE_range {te : TE} {σ : L2.St} {j : Nat} {H1 : Hp} {D : Addr} {Qd : Hp → Prop} {n : Nat} (P : Int → Prop) (hz : n ≤ 100000) (hD : H1 D = none)
    (turn : ∀ (i : Nat) (H : Hp) (R : VK), i < n → Same H1 H → (∀ m H', Same H H' → P m → R (.int m) H') → te ((wipe σ [j]).set j (some (.int (0 + (i : Int))))) H R)
    (fin : ∀ H' (ns : List Int), ns.length = n → (∀ m ∈ ns, P m) → Same H1 H' → H' D = some (.lst (ns.map V.int)) → Qd H') :
    ∃ W : Nat → Nat → Hp → Prop, (∃ m, W 0 m (upd H1 D (.lst []))) ∧ ∀ i m H, W i m H →
      ((Itr 0 n).stop i H ∧ Qd H) ∨ ((Itr 0 n).go i H ∧ ∃ Nx : Hp → Prop, (∀ H', Nx H' → ∃ m', m' < m ∧ W (i + 1) m' H') ∧ ∀ x H', (Itr 0 n).yld i H x H' → gName j x (wipe σ [j]) H' fun σ2 H2 => wipe σ2 [j] = wipe σ [j] ∧ tYes σ2 H2 fun b H3 =>
        if b = true then te σ2 H3 fun y H4 => ∃ acc, H4 D = some (.lst acc) ∧ acc.length < sizeLine ∧ Nx (upd H4 D (.lst (acc ++ [y]))) else Nx H3) := by
  refine lc_range (lo := 0) (n := n) (fun i H => ∃ ns : List Int, ns.length = i ∧ (∀ m ∈ ns, P m) ∧ Same H1 H ∧ H D = some (.lst (ns.map V.int))) ⟨[], rfl, (fun m h => by cases h), same_new hD, upd_same⟩ ?_ ?_
  · rintro i H hi ⟨ns, hl, hp, s, hd⟩
    refine ⟨wipe1, turn i H _ (by omega) s fun m H4 s4 pm => ⟨_, s4 _ _ hd, Evl.sz_lt (by rw [List.length_map]; omega), ns ++ [m], by rw [List.length_append, hl]; rfl, fun x hx => ?_, same_mut (s.trans s4) hD, ?_⟩⟩
    · rcases List.mem_append.mp hx with h | h
      · exact hp x h
      · rw [List.mem_singleton.mp h]; exact pm
    · rw [upd_same, List.map_append]; rfl
  · rintro H ⟨ns, hl, hp, s, hd⟩
    exact fin H ns hl hp s hd
theorem fig_mod {c m : Int} (h0 : 0 < m) (h1 : m ≤ 10 ^ 30) : Fig (c % m) := ⟨Int.emod_nonneg _ (by omega), by have := Int.emod_lt_of_pos c h0; omega⟩
/-- an int that may be written -/
def IntOk (n : Int) : Prop := n.natAbs.log2 < 1920 ∧ (numT n).length ≤ 100
theorem Fig.ok {n : Int} (h : Fig n) : IntOk n := ⟨log2_fig h, Nat.le_trans (numT_len h.1 h.2) (by decide)⟩
def TD.Sm : TD → Prop
  | .ord ls => ls.length ≤ 100 ∧ ∀ t ∈ ls, t.item.length ≤ 100 ∧ IntOk t.pieces ∧ IntOk t.cents ∧ IntOk t.pack
  | .num w ns => w ≠ "order" ∧ ns ≠ [] ∧ ns.length ≤ 100 ∧ w.length ≤ 100 ∧ ∀ n ∈ ns, IntOk n
theorem word_len {w : Str} {k : Nat} (h : partsOf w = some k) : w.length ≤ 10 := by
  rcases parts_word h with rfl | rfl | rfl | rfl | rfl | rfl | rfl | rfl <;> decide +kernel
theorem num_count {w : Str} {ns : List Int} (W : (TD.num w ns).Wr) : 2 ≤ ns.length ∧ ns.length ≤ 3 := by
  obtain ⟨h0, h1, _⟩ := W
  unfold partsOf at h1
  rw [if_neg h0] at h1
  by_cases h2 : w = "pay" ∨ w = "refund"
  · rw [if_pos h2] at h1; have := Option.some.inj h1; omega
  · rw [if_neg h2] at h1
    by_cases h3 : w = "deliver" ∨ w = "back" ∨ w = "swap" ∨ w = "credit" ∨ w = "move"
    · rw [if_pos h3] at h1; have := Option.some.inj h1; omega
    · rw [if_neg h3] at h1; cases h1
theorem TD.Wr.sm {d : TD} (W : d.Wr) : d.Sm := by
  cases d with
  | ord ls =>
    obtain ⟨_, h1, h⟩ := W
    exact ⟨h1, fun t ht => ⟨by have := item_len (h t ht).i; omega, (h t ht).p.ok, (h t ht).c.ok, (h t ht).k.ok⟩⟩
  | num w ns =>
    obtain ⟨n2, n3⟩ := num_count W
    obtain ⟨h0, h1, h⟩ := W
    exact ⟨h0, fun e => by rw [e] at n2; simp at n2, by omega, by have := word_len h1; omega, fun n hn => (h n hn).ok⟩
/-- data that is told alike part by part -/
def AlikeD (D : PyData) : Prop := (∃ w r, D = .tuple (.str w :: r) ∧ w ≠ "order" ∧ FlatT D) ∨ ∃ ls : List LineT, D = .tuple [.str "order", .list (ls.map lineD)] ∧ ls.length ≤ 100000 ∧ ∀ t ∈ ls, PyData.strOk t.item = true
theorem flat_line {t : LineT} (h : PyData.strOk t.item = true) : FlatT (lineD t) := ⟨_, rfl, by show 4 ≤ 100; decide, fun p hp => by
  simp only [List.mem_cons, List.not_mem_nil, or_false] at hp
  rcases hp with rfl | rfl | rfl | rfl
  · exact .inl ⟨_, rfl, h⟩
  · exact .inr ⟨_, rfl⟩
  · exact .inr ⟨_, rfl⟩
  · exact .inr ⟨_, rfl⟩⟩
theorem item_plain {z : Str} (h : itemOk z = true) : Plain z := ⟨by have := item_len h; omega, fun c hc => by
  unfold itemOk at h
  rw [Bool.and_eq_true, List.all_eq_true] at h
  have := h.2 c hc
  rw [Bool.and_eq_true, decide_eq_true_eq, decide_eq_true_eq] at this
  omega⟩
theorem word_plain {w : Str} {k : Nat} (h : partsOf w = some k) : Plain w := by
  rcases parts_word h with rfl | rfl | rfl | rfl | rfl | rfl | rfl | rfl <;> exact ⟨by decide +kernel, by decide +kernel⟩
theorem TD.Wr.alike {d : TD} (W : d.Wr) : AlikeD d.d := by
  cases d with
  | ord ls =>
    obtain ⟨_, h1, h⟩ := W
    exact .inr ⟨ls, rfl, by omega, fun t ht => (item_plain (h t ht).i).ok⟩
  | num w ns =>
    obtain ⟨n2, n3⟩ := num_count W
    obtain ⟨h0, h1, h⟩ := W
    refine .inl ⟨w, _, rfl, h0, _, rfl, by rw [List.length_cons, List.length_map]; omega, fun p hp => ?_⟩
    rcases List.mem_cons.mp hp with rfl | hp
    · exact .inl ⟨w, rfl, (word_plain h1).ok⟩
    · obtain ⟨n, _, rfl⟩ := List.mem_map.mp hp
      exact .inr ⟨n, rfl⟩
theorem cut1 {x : V} {xs : List V} : cutV (x :: xs) (some 1) none = xs := by
  unfold cutV
  rw [HT.sIx_none, show (1 : Int) = ((1 : Nat) : Int) from rfl, HT.sIx_nat, Nat.min_eq_left (by simp), List.drop_succ_cons, List.drop_zero, List.take_of_length_le (by simp)]
theorem cut1_not {x : V} {xs : List V} {hi : Option Int} : ¬ (HT.sIx (x :: xs).length 0 (some 1) = 0 ∧ HT.sIx (x :: xs).length (x :: xs).length hi = (x :: xs).length) := fun h => by
  have h := h.1
  rw [show (1 : Int) = ((1 : Nat) : Int) from rfl, HT.sIx_nat, Nat.min_eq_left (by simp)] at h
  cases h
theorem textOf_num {w : Str} {ns : List Int} (h : ns ≠ []) : textOf (.num w ns) = w ++ " " ++ Txt.join " " (ns.map numT) := by
  cases ns with
  | nil => exact absurd rfl h
  | cons n r =>
    show Txt.join " " (w :: numT n :: r.map numT) = _
    rw [join_cons]
    rfl
theorem IsItem.ok {z : Str} (h : IsItem z) : itemOk z = true := by
  unfold itemOk
  rw [Bool.and_eq_true, Bool.and_eq_true, decide_eq_true_eq, decide_eq_true_eq, List.all_eq_true]
  refine ⟨⟨h.i0, h.i1⟩, fun c hc => ?_⟩
  rw [Bool.and_eq_true, decide_eq_true_eq, decide_eq_true_eq]
  exact h.ia c hc
structure NoX (K : PySem.W.Frag) (mg : Str → Option Value) (cl : Str → Addr) : Prop where
  g : ∀ n ∈ (["NoDeed"] : List Str), mg n = some (.ref (cl n))
  x : PySem.W.exmOne K (.ref (cl "NoDeed")) (.ref (cl "NoDeed")) = some true
/-! ### what is written is plain -/
theorem num_plain {n : Int} (h : Fig n) : ∀ c ∈ (numT n).cps.toList, c < 128 := fun c hc => by
  obtain ⟨k, rfl⟩ := num_nat h.1
  rw [cps_num] at hc
  have := numL_digits k c hc
  omega
theorem join_chars {Pc : Nat → Prop} {y : Str} (hy : ∀ c ∈ TL.tl y, Pc c) {ps : List Str} (h : ∀ p ∈ ps, ∀ c ∈ TL.tl p, Pc c) : ∀ c ∈ TL.tl (Txt.join y ps), Pc c := by
  rw [TL.join_eq, tl_join]
  have go : ∀ ls : List (List Nat), (∀ p ∈ ls, ∀ c ∈ p, Pc c) → ∀ c ∈ joinL (TL.tl y) ls, Pc c := by
    intro ls
    induction ls with
    | nil => intro _ c hc; unfold joinL at hc; cases hc
    | cons p r ih =>
      intro h c hc
      cases r with
      | nil => unfold joinL at hc; exact h p (.head _) c hc
      | cons q r =>
        unfold joinL at hc
        rw [List.mem_append, List.mem_append] at hc
        rcases hc with hc | hc | hc
        · exact h p (.head _) c hc
        · exact hy c hc
        · exact ih (fun p hp => h p (.tail _ hp)) c hc
  refine go _ fun p hp => ?_
  obtain ⟨q, hq, rfl⟩ := List.mem_map.mp hp
  exact h q hq
theorem line_plain {t : LineT} (W : t.Wr) : ∀ c ∈ TL.tl (lineT t), c < 128 := join_chars (by rw [blank_cps]; decide) (fun p hp => by
  simp only [List.mem_cons, List.not_mem_nil, or_false] at hp
  rcases hp with rfl | rfl | rfl | rfl
  · exact (item_plain W.i).c
  · exact num_plain W.p
  · exact num_plain W.c
  · exact num_plain W.k)
theorem TD.Wr.plain {d : TD} (W : d.Wr) : Plain (textOf d) := by
  cases d with
  | ord ls =>
    obtain ⟨_, h1, h⟩ := W
    have jl := join_len ", " (ls.map lineT)
    have jm := sum_le (k := 124) (ns := (ls.map lineT).map (·.length)) (fun n hn => by
      obtain ⟨p, hp, rfl⟩ := List.mem_map.mp hn
      obtain ⟨x, hx', rfl⟩ := List.mem_map.mp hp
      exact lineT_len (h x hx'))
    rw [List.length_map, List.length_map] at jm
    rw [List.length_map, show ((", " : Str)).length = 2 by decide +kernel] at jl
    refine ⟨?_, fun c hc => ?_⟩
    · show ("order " ++ Txt.join ", " (ls.map lineT)).length ≤ 90000
      rw [len_cps, cps_app, List.length_append, ← len_cps, ← len_cps, show (("order " : Str)).length = 6 by decide +kernel]
      omega
    · have hc : c ∈ ("order " ++ Txt.join ", " (ls.map lineT)).cps.toList := hc
      rw [cps_app] at hc
      rcases List.mem_append.mp hc with hc | hc
      · exact (show ∀ c ∈ (("order " : Str)).cps.toList, c < 128 by decide +kernel) c hc
      · refine join_chars (Pc := fun c => c < 128) (by rw [comma_cps]; decide) (fun p hp => ?_) c hc
        obtain ⟨t, ht, rfl⟩ := List.mem_map.mp hp
        exact line_plain (h t ht)
  | num w ns =>
    obtain ⟨n2, n3⟩ := num_count W
    obtain ⟨h0, h1, h⟩ := W
    have jl := join_len " " (w :: ns.map numT)
    have jm := sum_le (k := 30) (ns := (w :: ns.map numT).map (·.length)) (fun n hn => by
      obtain ⟨p, hp, rfl⟩ := List.mem_map.mp hn
      rcases List.mem_cons.mp hp with rfl | hp
      · have := word_len h1; omega
      · obtain ⟨x, hx', rfl⟩ := List.mem_map.mp hp
        exact numT_len (h x hx').1 (h x hx').2)
    rw [List.length_map, List.length_cons, List.length_map] at jm
    rw [List.length_cons, List.length_map, show ((" " : Str)).length = 1 by decide +kernel] at jl
    refine ⟨?_, ?_⟩
    · show (Txt.join " " (w :: ns.map numT)).length ≤ 90000
      omega
    · refine join_chars (by rw [blank_cps]; decide) (fun p hp => ?_)
      rcases List.mem_cons.mp hp with rfl | hp
      · exact (word_plain h1).c
      · obtain ⟨x, hx', rfl⟩ := List.mem_map.mp hp
        exact num_plain (h x hx')
theorem AlikeD.shaped {D : PyData} (h : AlikeD D) : SeqAt.shaped D = true := by
  rcases h with ⟨w, r, rfl, _, fd⟩ | ⟨ls, rfl, _, hs⟩
  · exact shaped_fl fd.ok
  · refine shaped_fl (n := 3) ?_
    show (PyData.strOk "order" && ((ls.map lineD).all (fl 1) && true)) = true
    rw [Bool.and_true, Bool.and_eq_true, List.all_eq_true]
    refine ⟨by decide +kernel, fun d hd => ?_⟩
    obtain ⟨t, ht, rfl⟩ := List.mem_map.mp hd
    exact (flat_line (hs t ht)).ok
theorem td_ref {K : PySem.W.Frag} {H : Hp} {v : V} {d : TD} (h : Dp K H v d.d) : ∃ p, v = .ref p := by
  cases d with
  | ord ls => exact (dp_tuple h).imp fun _ h => h.elim fun _ h => h.1
  | num w ns => exact (dp_tuple h).imp fun _ h => h.elim fun _ h => h.1
end Of

set_option Elab.async false
set_option linter.all false
set_option maxRecDepth 100000
set_option maxHeartbeats 4000000
/-! Texts gone through sign by sign, cut and put together: what the laws' own readers want. -/
namespace Of
open PySem PySem.Spec PyProof.Rows L2 NumText TL
theorem for_str {x : Str} {g : TG} {tb : TS} {D : Ends} {σ : L2.St} {H : Hp} (Pv : Nat → L2.St → Hp → Prop) (h0 : Pv 0 σ H)
    (hs : ∀ i c σ H, x.cps.toList[i]? = some c → Pv i σ H → g (.str ⟨#[c]⟩) σ H fun σ2 H2 => tb { D with nx := Pv (i + 1), ct := Pv (i + 1), bk := D.nx } σ2 H2) (hd : ∀ σ H, Pv x.cps.toList.length σ H → D.nx σ H) :
    ∃ W : Nat → Nat → L2.St → Hp → Prop, (∃ m, W 0 m σ H) ∧ ∀ i m σ H, W i m σ H →
      ((Its x).stop i H ∧ D.nx σ H) ∨ ((Its x).go i H ∧ ∃ N : L2.St → Hp → Prop, (∀ σ' H', N σ' H' → ∃ m', m' < m ∧ W (i + 1) m' σ' H') ∧ ∀ v H', (Its x).yld i H v H' → g v σ H' fun σ2 H2 => tb { D with nx := N, ct := N, bk := D.nx } σ2 H2) := by
  have hc : x.cps.size = x.cps.toList.length := by simp
  refine ⟨fun i m σ H => m = x.cps.toList.length - i ∧ i ≤ x.cps.toList.length ∧ Pv i σ H, ⟨_, rfl, Nat.zero_le _, h0⟩, ?_⟩
  rintro i m σ H ⟨rfl, hi, p⟩
  by_cases hlt : i < x.cps.toList.length
  · refine .inr ⟨by show i < x.cps.size; omega, Pv (i + 1), fun σ' H' p' => ⟨x.cps.toList.length - (i + 1), by omega, rfl, hlt, p'⟩, fun v H' y => ?_⟩
    obtain ⟨rfl, k, hk, rfl⟩ := y
    exact hs i k σ _ (by simpa using hk) p
  · have e : i = x.cps.toList.length := by omega
    subst e
    exact .inl ⟨by show x.cps.size ≤ _; omega, hd σ H p⟩
theorem op_mulS {X : Cx} : OpR X (binaryOp .Mult) (fun x y H Q => ∃ a n, x = .str a ∧ y = .int n ∧ MulOk a n ∧ Q (.str (Txt.mul a n)) H) := by
  intro pins s σ H x y v u Q I rx ry h
  obtain ⟨a, n, rfl, rfl, hok, q⟩ := h
  obtain ⟨t, rfl⟩ := rx
  obtain ⟨t', rfl⟩ := ry
  exact SB.mul hok fun t' k => ⟨.str _, H, I.tok k, ⟨t', rfl⟩, q⟩
theorem figs_mem {c : Nat} : decide (c ∈ (("0123456789" : Str)).cps.toList) = (decide (48 ≤ c) && decide (c ≤ 57)) := by
  rw [show (("0123456789" : Str)).cps.toList = [48, 49, 50, 51, 52, 53, 54, 55, 56, 57] by decide +kernel, ← Bool.decide_and]
  refine decide_eq_decide.mpr ?_
  simp only [List.mem_cons, List.not_mem_nil, or_false]
  omega
theorem alpha_mem {c : Nat} : decide (c ∈ (("abcdefghijklmnopqrstuvwxyz" : Str)).cps.toList) = (decide (97 ≤ c) && decide (c ≤ 122)) := by
  rw [show (("abcdefghijklmnopqrstuvwxyz" : Str)).cps.toList = [97, 98, 99, 100, 101, 102, 103, 104, 105, 106, 107, 108, 109, 110, 111, 112, 113, 114, 115, 116, 117, 118, 119, 120, 121, 122] by decide +kernel, ← Bool.decide_and]
  refine decide_eq_decide.mpr ?_
  simp only [List.mem_cons, List.not_mem_nil, or_false]
  omega
/-! ### a text's first part -/
theorem spl_par {S : List Nat} (hS : S ≠ []) : ∀ {l acc : List Nat}, match par S acc l with | some (a, b) => spl S 0 acc l = a :: spl S 0 [] b | none => spl S 0 acc l = [acc ++ l]
  | [], acc => by
    show spl S 0 acc [] = [acc ++ []]
    rw [spl_nil, List.append_nil]
  | c :: r, acc => by
    by_cases h : pre S (c :: r) = true
    · rw [par_hit h]
      show spl S 0 acc (c :: r) = acc :: spl S 0 [] ((c :: r).drop S.length)
      rw [spl_hit h, spl_pass]
      cases S with
      | nil => exact absurd rfl hS
      | cons s S => rfl
    · have h := Bool.eq_false_iff.mpr h
      have ih := spl_par hS (l := r) (acc := acc ++ [c])
      rw [par_miss h, spl_miss h]
      cases e : par S (acc ++ [c]) r with
      | none =>
        rw [e] at ih
        rw [ih, List.append_assoc]
        rfl
      | some ab =>
        obtain ⟨a, b⟩ := ab
        rw [e] at ih
        exact ih
theorem split_head {z y : Str} (hy : TL.tl y ≠ []) (hk : y.cps.all (· < 256) = true) : ∃ r, Txt.split z y = (Txt.partition z y).1 :: r := by
  have e := split_spl z y hy (kind_ok hk)
  have p := partition_par z y hy
  have h := spl_par hy (l := TL.tl z) (acc := [])
  cases q : par (TL.tl y) [] (TL.tl z) with
  | none =>
    rw [q] at h p
    rw [h] at e
    rw [p]
    exact ⟨[], map_tl_inj (by rw [e]; rfl)⟩
  | some ab =>
    obtain ⟨a, b⟩ := ab
    rw [q] at h p
    rw [h] at e
    rw [p]
    cases s : Txt.split z y with
    | nil => rw [s] at e; cases e
    | cons x r =>
      rw [s] at e
      injection e with e1 e2
      exact ⟨r, by rw [show x = (⟨a.toArray⟩ : Str) from ext_tl e1]⟩
/-- a text that begins with 'order ' -/
theorem starts_order {z : Str} : Txt.startswith z "order " = decide ((TL.tl z).take 6 = [111, 114, 100, 101, 114, 32]) := by
  have el : TL.tl ("order " : Str) = [111, 114, 100, 101, 114, 32] := by decide +kernel
  have h := at_iff (x := z) (y := "order ") (by rw [el]; simp) 0
  rw [List.drop_zero, el] at h
  unfold Txt.startswith
  have hb : (decide (0 + ("order " : Str).length ≤ z.length) && PySem.Builtin.Str.subAt z "order " 0) = true ↔ PySem.StrLaws.At z "order " z.length 0 := by
    rw [Bool.and_eq_true, decide_eq_true_eq]
    exact Iff.rfl
  have hp : pre [111, 114, 100, 101, 114, 32] (TL.tl z) = true ↔ (TL.tl z).take 6 = [111, 114, 100, 101, 114, 32] := by
    unfold pre
    exact beq_iff_eq
  have := hb.trans (h.trans hp)
  by_cases hc : (TL.tl z).take 6 = [111, 114, 100, 101, 114, 32]
  · rw [decide_eq_true hc]
    exact this.mpr hc
  · rw [decide_eq_false hc]
    exact Bool.eq_false_iff.mpr fun e => hc (this.mp e)
theorem order_part {z : Str} (h : (TL.tl z).take 6 = [111, 114, 100, 101, 114, 32]) : Txt.partition z " " = (("order" : Str), (" " : Str), (⟨((TL.tl z).drop 6).toArray⟩ : Str)) := by
  have e : z = "order" ++ " " ++ (⟨((TL.tl z).drop 6).toArray⟩ : Str) := ext_tl (by
    rw [tl_append, tl_append, show TL.tl ("order" : Str) ++ TL.tl (" " : Str) = [111, 114, 100, 101, 114, 32] by decide +kernel, tl_mk, ← h, List.take_append_drop])
  conv => lhs; rw [e]
  exact partition_app blank_cps (by decide +kernel)
theorem no_order {z : Str} (h : ¬ (TL.tl z).take 6 = [111, 114, 100, 101, 114, 32]) (hw : (Txt.partition z " ").1 = "order") : Txt.partition z " " = (("order" : Str), Str.empty, Str.empty) := by
  have p := partition_par z " " (by rw [blank_cps]; simp)
  cases q : par (TL.tl (" " : Str)) [] (TL.tl z) with
  | none =>
    rw [q] at p
    rw [p] at hw ⊢
    have hw : z = "order" := hw
    rw [hw]
  | some ab =>
    obtain ⟨a, b⟩ := ab
    rw [q] at p
    rw [p] at hw
    have hw : (⟨a.toArray⟩ : Str) = "order" := hw
    have ha : a = [111, 114, 100, 101, 114] := by
      have := congrArg TL.tl hw
      rw [tl_mk] at this
      rw [this]
      decide +kernel
    refine absurd ?_ h
    have go : ∀ {l acc a b : List Nat}, par [32] acc l = some (a, b) → acc ++ l = a ++ 32 :: b := by
      intro l
      induction l with
      | nil => intro acc a b h; cases h
      | cons c r ih =>
        intro acc a b h
        by_cases hp : pre [32] (c :: r) = true
        · rw [par_hit hp] at h
          cases h
          have : c = 32 := by
            have e : (c :: r).take 1 = [32] := eq_of_beq hp
            simpa using e
          rw [this]
          rfl
        · rw [par_miss (Bool.eq_false_iff.mpr hp)] at h
          have := ih h
          rw [List.append_assoc] at this
          exact this
    rw [blank_cps] at q
    have e := go q
    rw [List.nil_append] at e
    rw [e, ha]
    rfl
theorem lineOf_nil : lineOf Str.empty = none := by
  unfold lineOf
  rw [show Txt.split Str.empty " " = [Str.empty] by decide +kernel]
  rfl
theorem deedOf_order {z : Str} (h : (TL.tl z).take 6 = [111, 114, 100, 101, 114, 32]) : deedOf z = (seqO lineOf (Txt.split (⟨((TL.tl z).drop 6).toArray⟩ : Str) ", ")).map .ord := by
  unfold deedOf
  rw [order_part h]
  dsimp only
  rw [if_pos rfl]
theorem deedOf_no {z : Str} (h : ¬ (TL.tl z).take 6 = [111, 114, 100, 101, 114, 32]) (hw : (Txt.partition z " ").1 = "order") : deedOf z = none := by
  unfold deedOf
  rw [no_order h hw]
  dsimp only
  rw [if_pos rfl, show Txt.split Str.empty ", " = [Str.empty] by decide +kernel]
  unfold seqO
  rw [lineOf_nil]
  rfl
end Of

set_option Elab.async false
set_option linter.all false
set_option maxRecDepth 100000
set_option maxHeartbeats 4000000
/-! A def that is called within an except suite with the error that the suite holds: isinstance of it, and how many of the answers are True. -/
namespace Of
open PySem PySem.Spec PyProof.Rows L2 L2H
/-! ### how often a truth stands in a list of truths -/
def isB (k : Bool) : Value → Bool
  | .bool b => b == k
  | _ => false
theorem vals_bools : ∀ {bs : List Bool} {us : List Value}, Vals (bs.map V.bl) us → us = bs.map Value.bool
  | [], _, .nil => rfl
  | b :: bs, _, .cons r t => by
    obtain rfl := r
    rw [vals_bools t]
    rfl
theorem isB_count (k : Bool) : ∀ bs : List Bool, (bs.map Value.bool).countP (isB k) = bs.count k
  | [] => rfl
  | b :: bs => by
    rw [List.map_cons, List.countP_cons, List.count_cons, isB_count k bs]
    rfl
def rCntB (K : PySem.W.Frag) : V → List V → Hp → VK → Prop := fun x xs H Q => ∃ (p : Addr) (bs : List Bool) (k : Bool), x = .ref p ∧ xs = [.bl k] ∧ SqL K H p (bs.map V.bl) ∧ Q (.int (bs.count k : Nat)) H
theorem mt_countB {X : Cx} : MtR X "list.count" (rCntB X.K) := by
  intro pins s σ H x xs v us Q I rx rxs h
  obtain ⟨p, bs, k, rfl, rfl, hs, q⟩ := h
  cases rx
  obtain ⟨u, rfl, ru⟩ := rxs.one
  obtain rfl : u = Value.bool k := ru
  obtain ⟨its, rv, ⟨⟨cls, dd, data, sl⟩, n, ho, hc, hdn, hd⟩, hlen⟩ := I.list hs
  simp only at hc hd
  subst hc hd
  have ei := vals_bools rv
  subst ei
  refine call_meets PySem.F.slot_list_count ⟨_, ho, rfl⟩ PySem.F.entry_list_count (PySem.F.args_list_count_2 _ _) (SeqAt.list_countAt p (bs.map Value.bool).toArray n dd sl (.bool k) (isB k)) ⟨ho, fun y hy => ?_, ?_⟩
  · have hy : y ∈ bs.map Value.bool := by simpa using hy
    obtain ⟨b, _, rfl⟩ := List.mem_map.mp hy
    exact SeqAt.EqAt.bool_bool b k
  · refine ⟨.int (bs.count k : Nat), H, I.tok _, ⟨s.toks, ?_⟩, q⟩
    show Value.int (((bs.map Value.bool).toArray.toList.countP (isB k) : Nat) : Int) s.toks = _
    rw [List.toList_toArray, isB_count]
theorem mt_countBK {X : Cx} (K : PySem.W.Frag) (h : X.K = K := by rfl) : MtR X "list.count" (rCntB K) := h ▸ mt_countB
/-! ### isinstance of the error that is held -/
theorem call_isP {X : Cx} {D : Addr} {p : Addr × Obj} (hp : p ∈ X.pn) (C : ExcC X.K D) (hz : Zc (.ref D) none p.2) (hf : ∃ vs, p.2.data = .fields vs) : CallR X (.builtin "isinstance") (rIsE X.K D p.1) := by
  intro pins s σ H xs us Q I r h
  obtain ⟨c, cv, b, rfl, hcv, e, q⟩ := h
  cases r with
  | cons rx rr =>
    cases rr with
    | cons rt rr =>
      cases rr
      cases rx
      have ec := hcv _ rt
      subst ec
      obtain ⟨hget, _⟩ := I.pin p (List.mem_append.mpr (.inl hp))
      obtain ⟨a, oe⟩ := p
      obtain ⟨vs, hv⟩ := hf
      have J : PySem.W.InstAt s.heap a oe D none := by
        obtain ⟨oc, od, oda, osl⟩ := oe
        obtain ⟨h1, h2⟩ := hz
        dsimp only at h1 h2 hv
        subst h1 h2 hv
        exact ⟨hget, rfl, rfl, trivial⟩
      exact PySem.W.kia_one (PySem.W.handS_kitx_exc C.hg C.hk C.hs C.hd C.ha C.hn C.ht C.hm) I.kIn J e (fun z => nomatch z) fun tk => ⟨.bl b, H, I.kept (t' := tk) fun _ _ z => z, rfl, q⟩
/-! ### a def that is handed the error -/
/-- its promise, told of the error's class D and place a -/
structure FnE (P : Program) (w : World) (K : PySem.W.Frag) (mg : Str → Option Value) (base : Heap) (k : Nat) (f : Addr) (fd : FuncData) (ps : List Str) (sp : Addr → Addr → Sp) : Prop where
  len : ∀ D a vs H Q E, sp D a vs H Q E → vs.length = ps.length
  run : ∀ (A : Around) (outer : List Env) (s : Shared) (H : Hp) (args : Args) (us : List Value) (vs : List V) (Q : VK) (E : XK) (p : Addr × Obj) (D : Addr), RoomH k A → PinOk outer H s p → Zc (.ref D) none p.2 → (∃ fs, p.2.data = .fields fs) → Env0 P w K mg base A outer s H →
    BindsTo s fd args (ps.zip us) → Vals vs us → sp D p.1 vs H Q E → codeAny (model P w) A (.call (.ref f) args) (CR CX0 outer P w H s Q E) s
theorem fn_ofE {P : Program} {w : World} {K : PySem.W.Frag} {mg : Str → Option Value} {base : Heap} {k : Nat} {f : Addr} {name qual : Str} {params : Arguments} {body : List Stmt} {scope : Scope} {dV kV doc pm cdv ct oc : Value} {an od : Option Addr} {osl : Array (Option Value)} {N ps : List Str} {sp : Addr → Addr → Sp}
    (lk : K.lookup f = some ⟨oc, od, .func (PySem.W.fnOf name qual params body scope dV kV doc pm an cdv ct), osl⟩) (hcd : PySem.W.codeIn K cdv qual = true) (S : FnScope N ps scope) (len : ∀ D a vs H Q E, sp D a vs H Q E → vs.length = ps.length)
    (hbody : ∀ (A : Around) (outer : List Env) (s : Shared) (H : Hp) (vs : List V) (Q : VK) (E : XK) (p : Addr × Obj) (D : Addr), Zc (.ref D) none p.2 → (∃ fs, p.2.data = .fields fs) → RoomH k (A.deeper (envOfC qual scope s.heap.objs.size f cdv)) → sp D p.1 vs H Q E →
      ∃ t, PSs (cxH CX0 P w K mg base N qual scope f cdv A outer s H E p) body t ∧ t { nx := fun _ H' => Q .non H', rt := Q } (L2.start N vs) H) :
    FnE P w K mg base (k + 1) f (PySem.W.fnOf name qual params body scope dV kV doc pm an cdv ct) ps sp := by
  refine ⟨len, fun A outer s H args us vs Q E p D room pin hz hf e0 hb r h => ?_⟩
  have kin : K.In s.heap := e0.mod.kin.keeps fun b o e => (e0.bs b o e).1
  have limit : s.heap.NoLimit := e0.mod.nolimit.keeps fun b o e => (e0.bs b o e).1
  have kinds : ∀ y ∈ ps.zip us, scope.names.lookup y.1 = some .local ∨ (scope.names.lookup y.1 = some .cell ∧ ((cellsFrom (s.heap.objs.size + 1) scope.names []).lookup y.1).isSome = true) := fun y hy => (S.par y.1 (List.of_mem_zip hy).1).imp id fun q => ⟨q, PySem.W.cellsFrom_some _ _ _ (.inl q)⟩
  refine codeAny_call_function room.depth (kin _ _ lk) rfl S.co S.gen rfl (PySem.W.codeRec_of kin hcd) (hb _ _ _ _ (wpAny_newFunctionEnv_cells S.kind kinds fun env he s1 x => ?_))
  subst he
  refine ⟨limit.keeps x.toInCall.keep, codeAny_func ?_⟩
  obtain ⟨t, ht, q⟩ := hbody A outer s H vs Q E p D hz hf (room.deeper _) h
  refine wpAny_mono (ht.run [] s1 (L2.start N vs) H _ (inv_startH S pin e0 (len _ _ _ _ _ _ h) r x) q) (fun fl z hs => ?_) fun e z hs => hs
  cases fl with
  | ret u =>
    obtain ⟨v, σ', H', J, rv, q⟩ := hs
    exact ⟨v, H', J.os, J.bare, J.base, J.hok, rv, q⟩
  | next =>
    obtain ⟨σ', H', J, q⟩ := hs
    exact ⟨V.non, H', J.os, J.bare, J.base, J.hok, rfl, q⟩
  | brk => exact hs.elim fun _ h => h.elim fun _ h => h.2.elim
  | cont => exact hs.elim fun _ h => h.elim fun _ h => h.2.elim
/-- it may be called by its name -/
structure CalE (P : Program) (w : World) (K : PySem.W.Frag) (mg : Str → Option Value) (base : Heap) (k : Nat) (x : Str) (ps : List Str) (sp : Addr → Addr → Sp) : Prop where
  ex : ∃ f fd, FnE P w K mg base k f fd ps sp ∧ mg x = some (.ref f) ∧ PySem.W.keepIn K (.ref f) = true ∧ Binds K fd ps []
def tCalE (sp : Addr → Addr → Sp) (a : Addr) (cls : Value) (d : Option Addr) (t : TA) : TE := fun σ H Q => t σ H fun vs H1 => ∃ D : Addr, cls = .ref D ∧ d = none ∧ sp D a vs H1 Q E0
theorem pe_calE {X : Cx} {a : Addr} {cls : Value} {d : Option Addr} {oe : Obj} {pn : List (Addr × Obj)} {k : Nat} {x : Str} {ps : List Str} {sp : Addr → Addr → Sp} {q pos : Pos} {e : Expr} {es : List Expr} {t : TA} (c : CalE X.prog X.w X.K X.mg X.base k x ps sp) (hr : Room k X.A) (hz : Zc cls d oe) (hf : ∃ vs, oe.data = .fields vs)
    (ha : PA (X.suite a ((a, oe) :: pn)) (e :: es) t) (hg : Gl X x := by rfl) (hdb : (x == ("__debug__" : Str)) = false := by decide) (he : starEach (e :: es) X.env = (false, eval e X.env) :: starEach es X.env := by rfl) (hpl : (backTo pos (starEach es X.env)).any (·.1) = false := by rfl) :
    PE (X.suite a ((a, oe) :: pn)) (.Call (.Name x q) (e :: es) [] pos) (tCalE sp a cls d t) := by
  obtain ⟨f, fd, F, hm, hk, hb⟩ := c.ex
  refine ⟨fun pins s σ H Q I h => ?_⟩
  refine wpAny_Call_Name_kw (ld_glob I hg hm ?_ hdb)
  refine PySem.W.callWith_K (h₀ := X.base) I.ok.mod.kin hk (thn (ha.run pos pins s σ H _ I h) fun us s1 ⟨vs, H1, I1, r, D, ec, ed, q⟩ => ⟨I1.kIn, ?_⟩) he hpl
  subst ec ed
  have hl : us.length = ps.length := by rw [← r.length]; exact F.len _ _ _ _ _ _ q
  have b := hb s1 us I1.kIn (by rw [List.append_nil]; exact hl)
  rw [List.append_nil] at b
  have P1 := I1.pin (a, oe) (List.mem_append_left _ List.mem_cons_self)
  have pin : PinOk (X.suite a ((a, oe) :: pn)).stack H1 s1 (a, oe) := ⟨P1.1, P1.2.1, fun hm => (List.mem_cons.mp (I1.stkSub a hm)).elim P1.2.2.1 P1.2.2.2.1, P1.2.2.2.2⟩
  refine wpAny_call (codeAny_mono (F.run _ _ s1 H1 ⟨us, []⟩ us vs Q E0 (a, oe) D (roomH_mark hr _) pin hz hf I1.env0 b r q) fun r s' hq => ?_)
  cases r with
  | error e => exact hq.elim
  | ok fl =>
    cases fl with
    | ret u => exact I1.after hq
    | next => exact hq.elim
    | brk => exact hq.elim
    | cont => exact hq.elim
/-! ### the ten classes -/
abbrev ten : List Str := ["NoDeed", "NoLines", "NoItem", "NoNumber", "FullBook", "NoOrder", "SameOrder", "NoLine", "TooMuch", "NothingDone"]
/-- what the ten say, asked of an error of one of src -/
structure OneE (K : PySem.W.Frag) (mg : Str → Option Value) (cl : Str → Addr) (src : List Str) : Prop where
  g : ∀ n ∈ ten, mg n = some (.ref (cl n))
  s : ∀ n ∈ src, n ∈ ten
  c : ∀ n ∈ src, ExcC K (cl n)
  i : ∀ n ∈ src, ∀ m ∈ ten, PySem.W.kitOne K (.ref (cl n)) (.ref (cl m)) = some (decide (n = m))
  v : ∀ n ∈ src, PySem.W.kitOne K (.ref (cl n)) (.type "ValueError") = some true
/-- FlowError takes them -/
structure FlowE (K : PySem.W.Frag) (mg : Str → Option Value) (cl : Str → Addr) (cF : Addr) (src : List Str) : Prop where
  g : ∀ n ∈ (["FlowError"] : List Str), mg n = some (.ref cF)
  x : ∀ n ∈ src, PySem.W.exmOne K (.ref (cl n)) (.ref cF) = some true
theorem kit_ref {K : PySem.W.Frag} {C D : Addr} {r : Bool} (e : PySem.W.subIn K (.ref C) (.ref D) = some r) (self : PySem.W.subIn K (.ref C) (.ref C) = some true) (i : PySem.W.isClsIn K D = true) (t : PySem.W.typeIn K (.ref D) = some (.type "type")) : PySem.W.kitOne K (.ref C) (.ref D) = some r := by
  unfold PySem.W.kitOne
  by_cases h : ((Value.ref C : Value) == .ref D) = true
  · rw [if_pos h]
    have h : C = D := Value.ref.inj (beq_iff_eq.mp h)
    subst h
    rw [self] at e
    exact e
  · rw [if_neg h]
    unfold PySem.W.isClsIn at i
    show (if ((PySem.W.clsIn K D).isSome && PySem.W.typeIn K (.ref D) == some (.type "type")) = true then PySem.W.subIn K (.ref C) (.ref D) else none) = some r
    rw [i, t]
    exact e
theorem kit_val {K : PySem.W.Frag} {D : Addr} (h : PySem.W.subIn K (.ref D) (.type "ValueError") = some true) : PySem.W.kitOne K (.ref D) (.type "ValueError") = some true := by
  unfold PySem.W.kitOne
  rw [if_neg (show ¬ ((Value.ref D == Value.type "ValueError") = true) from fun z => by cases beq_iff_eq.mp z)]
  show (if PySem.W.kitMeta "ValueError" = true then PySem.W.subIn K (.ref D) (.type "ValueError") else none) = some true
  rw [if_pos (by decide +kernel)]
  exact h
theorem cal_ofE {P : Program} {w : World} {K : PySem.W.Frag} {mg : Str → Option Value} {base : Heap} {x : Str} {st : Stmt} {N ps : List Str} {k : Nat} {sp : Addr → Addr → Sp} (D : DefAt K mg x st ps) (S : FnScope N ps (defScope st)) (len : ∀ D a vs H Q E, sp D a vs H Q E → vs.length = ps.length)
    (hbody : ∀ (f : Addr) (cdv : Value) (A : Around) (outer : List Env) (s : Shared) (H : Hp) (vs : List V) (Q : VK) (E : XK) (p : Addr × Obj) (D : Addr), Zc (.ref D) none p.2 → (∃ fs, p.2.data = .fields fs) → RoomH k (A.deeper (envOfC x (defScope st) s.heap.objs.size f cdv)) → sp D p.1 vs H Q E →
      ∃ t, PSs (cxH CX0 P w K mg base N x (defScope st) f cdv A outer s H E p) (defBody st) t ∧ t { nx := fun _ H' => Q .non H', rt := Q } (L2.start N vs) H) : CalE P w K mg base (k + 1) x ps sp := by
  obtain ⟨f, fd, F, hm, hb⟩ := D.ex
  obtain ⟨oc, od, kV, doc, pm, an, cdv, ct, osl, rfl, lk, hcd⟩ := F.ex
  exact ⟨f, _, fn_ofE lk hcd S len fun A outer s H vs Q E p D hz hf hr h => hbody f cdv A outer s H vs Q E p D hz hf hr h, hm, F.kp, hb⟩
def clOf10 (as : List Addr) (n : Str) : Addr := as.getD (ten.idxOf n) 0
end Of

set_option Elab.async false
set_option linter.all false
set_option maxRecDepth 100000
set_option maxHeartbeats 4000000
/-! What goes on while an except suite holds an error: lists and texts walked to their end, tuples taken apart, comprehensions. -/
namespace Of
open PySem PySem.Spec PyProof.Rows L2 L2H HotX
section
variable {prog : Program} {w : World} {A : Around} {E : Value → Shared → Prop} {s : Shared} {x1 : Addr}
theorem hot_keeps {h h' : Heap} (hot : HotAt A x1 h) (k : ∀ o, h.get? x1 = some o → h'.get? x1 = some o) : HotAt A x1 h' := by
  obtain ⟨a, o, vs, b, c, d⟩ := hot
  exact ⟨a, o, vs, k _ b, c, d⟩
/-- StopIteration raised, an error being handled -/
theorem stop_hot {α : Type} {Q : α → Shared → Prop} (hot : HotAt A x1 s.heap)
    (hE : ∀ a h', (∀ b o, s.heap.get? b = some o → h'.get? b = some o) → (∃ o, h'.get? a = some o ∧ o.cls = .type "StopIteration") → E (.ref a) { s with heap := h' }) :
    wpAny (model prog w) A (newExc (.type "StopIteration") [] >>= fun e => (raiseNew e : Sem α)) Q E s := by
  refine wpAny_bind ?_
  simp only [newExc, newTuple]
  refine wpAny_bind (wpAny_newObj_type ?_ (by size_fits))
  refine wpAny_bind (m := firstArgMember _ _) ?_
  refine wpAny_of_eq (a := Value.none) (by first | rfl | (simp only [firstArgMember]; rfl)) (wpAny_newObj_type ?_ (by size_fits))
  obtain ⟨hh, o1, vs1, h1, d1, c1⟩ := hot
  refine raiseNew_hot ⟨hh, o1, vs1, Heap.get?_push_of_some _ (Heap.get?_push_of_some _ h1), d1, c1⟩ ?_ (Heap.get?_push_size _ rfl) rfl ?_ ?_
  · exact Nat.ne_of_lt (Heap.lt_size (Heap.get?_push_of_some _ h1))
  · first | (simp; done) | (simp; omega) | (simp only [Array.size_append]; simp; omega)
  · refine hE _ _ (fun b o e => ?_) ⟨_, Heap.get?_update_self _ (Heap.get?_push_size _ rfl) rfl, rfl⟩
    rw [Heap.get?_update_other _ _ (Nat.ne_of_gt (Heap.lt_size (Heap.get?_push_of_some _ e)))]
    exact Heap.get?_push_of_some _ (Heap.get?_push_of_some _ e)
theorem end_tail {jt : Addr} {f : Obj → Obj} {Q : Option Value → Shared → Prop} (ne : x1 ≠ jt) (hot : HotAt A x1 s.heap) (hQ : ∀ h', Heap.ExtBut jt s.heap h' → Q none { s with heap := h' }) {E2 : Value → Shared → Prop} {α : Type} {Q2 : α → Shared → Prop}
    (hE : ∀ e s', E2 e s' = wpAny (model prog w) A (do if (← isInstance e (.type "StopIteration")) then pure none else throw e : Sem (Option Value)) Q E s') :
    wpAny (model prog w) A.in1 (newExc (.type "StopIteration") [] >>= fun e => (raiseNew e : Sem α)) Q2 E2 { s with heap := s.heap.update jt f } := by
  refine stop_hot (x1 := x1) (A := A.in1) (hot_keeps (A := A.in1) hot fun o e => by rw [Heap.get?_update_other _ _ ne.symm]; exact e) fun a h' k so => ?_
  obtain ⟨o, ho, hc⟩ := so
  rw [hE]
  refine wpAny_bind (wpAny_isInstance (T := "StopIteration") (b := true) ⟨o, ho, hc⟩ isSubtype_stop (wpAny_pure (hQ h' fun b o hb e => k b o ?_)))
  exact (Heap.SameBut.update ..).extBut b o hb e
theorem list_end_hot {jt la : Addr} {i : Nat} {items} {Q : Option Value → Shared → Prop} (ne : x1 ≠ jt) (hot : HotAt A x1 s.heap) (hit : s.heap.IsListIter jt la i) (hl : s.heap.IsList la items) (hend : items[i]? = none)
    (hQ : ∀ h', Heap.ExtBut jt s.heap h' → Q none { s with heap := h' }) : wpAny (model prog w) A (pyNext (.ref jt)) Q E s := by
  obtain ⟨oi, hoi, ci, di⟩ := id hit
  obtain ⟨ol, hol, _, nl, dl⟩ := hl
  unfold pyNext
  refine wpAny_bind (wpAny_attempt (wpAny_callSpecial?_slot (name := Str.ofString "__next__") hit.typeIs slot_listiter_next (wpAny_call_entry slot_listiter_next hit.typeIs entry_listiter_next ?_ (args_listiter_next _))))
  show wpAny _ _ (field (.ref jt) 0 >>= _) _ _ s
  refine wpAny_bind (wpAny_field hoi di (x := .ref la) rfl ?_)
  show wpAny _ _ (if (Value.ref la == Value.none) = true then _ else _) _ _ s
  rw [if_neg (show ¬ ((Value.ref la == Value.none) = true) from Bool.false_ne_true)]
  show wpAny _ _ (field (.ref jt) 1 >>= _) _ _ s
  refine wpAny_bind (wpAny_field hoi di (x := .int i 0) rfl ?_)
  show wpAny _ _ (seqItems? (.ref la) >>= _) _ _ s
  refine wpAny_bind (wpAny_seqItems hol dl ?_)
  simp only [Int.toNat_natCast, hend]
  refine wpAny_bind (wpAny_rule (wpAny_bind (wpAny_setField hoi di (by simp) ?_)))
  exact end_tail ne hot hQ fun _ _ => rfl
theorem tup_end_hot {jt tu : Addr} {i : Nat} {items} {Q : Option Value → Shared → Prop} (ne : x1 ≠ jt) (hot : HotAt A x1 s.heap) (hit : IsTupIter s.heap jt tu i) (ht : IsTup s.heap tu items) (hend : items[i]? = none)
    (hQ : ∀ h', Heap.ExtBut jt s.heap h' → Q none { s with heap := h' }) : wpAny (model prog w) A (pyNext (.ref jt)) Q E s := by
  obtain ⟨oi, hoi, ci, di⟩ := id hit
  obtain ⟨ol, hol, _, nl, dl⟩ := ht
  unfold pyNext
  refine wpAny_bind (wpAny_attempt (wpAny_callSpecial?_slot (name := Str.ofString "__next__") hit.typeIs slot_tupleiter_next (wpAny_call_entry slot_tupleiter_next hit.typeIs entry_tupleiter_next ?_ (args_tupleiter_next _))))
  show wpAny _ _ (field (.ref jt) 0 >>= _) _ _ s
  refine wpAny_bind (wpAny_field hoi di (x := .ref tu) rfl ?_)
  show wpAny _ _ (if (Value.ref tu == Value.none) = true then _ else _) _ _ s
  rw [if_neg (show ¬ ((Value.ref tu == Value.none) = true) from Bool.false_ne_true)]
  show wpAny _ _ (field (.ref jt) 1 >>= _) _ _ s
  refine wpAny_bind (wpAny_field hoi di (x := .int i 0) rfl ?_)
  show wpAny _ _ (seqItems? (.ref tu) >>= _) _ _ s
  refine wpAny_bind (wpAny_seqItems hol dl ?_)
  simp only [Int.toNat_natCast, hend]
  refine wpAny_bind (wpAny_rule (wpAny_bind (wpAny_setField hoi di (by simp) ?_)))
  exact end_tail ne hot hQ fun _ _ => rfl
theorem ascii_end_hot {jt : Addr} {x : Str} {t : Tok} {i : Nat} {Q : Option Value → Shared → Prop} (ne : x1 ≠ jt) (hot : HotAt A x1 s.heap) (hit : s.heap.IsStrIter jt "str_ascii_iterator" x t i) (hend : x.cps[i]? = none)
    (hQ : ∀ h', Heap.ExtBut jt s.heap h' → Q none { s with heap := h' }) : wpAny (model prog w) A (pyNext (.ref jt)) Q E s := by
  obtain ⟨oi, hoi, ci, di⟩ := id hit
  unfold pyNext
  refine wpAny_bind (wpAny_attempt (wpAny_callSpecial?_slot (name := Str.ofString "__next__") hit.typeIs F.slot_str_ascii_iterator_next (wpAny_call_entry F.slot_str_ascii_iterator_next hit.typeIs F.entry_str_ascii_iterator_next ?_ (F.args_str_ascii_iterator_next_1 _))))
  show wpAny _ _ (field (.ref jt) 0 >>= _) _ _ s
  refine wpAny_bind (wpAny_field hoi di (x := .str x t) rfl ?_)
  show wpAny _ _ (field (.ref jt) 1 >>= _) _ _ s
  refine wpAny_bind (wpAny_field hoi di (x := .int i 0) rfl ?_)
  simp only [Int.toNat_natCast, hend]
  refine wpAny_bind (wpAny_rule (wpAny_bind (wpAny_setField hoi di (by simp) (wpAny_bind (wpAny_letGo ?_)))))
  exact end_tail ne hot hQ fun _ _ => rfl
theorem wide_end_hot {jt : Addr} {x : Str} {t : Tok} {i : Nat} {Q : Option Value → Shared → Prop} (ne : x1 ≠ jt) (hot : HotAt A x1 s.heap) (hit : s.heap.IsStrIter jt "str_iterator" x t i) (hend : x.cps[i]? = none)
    (hQ : ∀ h', Heap.ExtBut jt s.heap h' → Q none { s with heap := h' }) : wpAny (model prog w) A (pyNext (.ref jt)) Q E s := by
  obtain ⟨oi, hoi, ci, di⟩ := id hit
  unfold pyNext
  refine wpAny_bind (wpAny_attempt (wpAny_callSpecial?_slot (name := Str.ofString "__next__") hit.typeIs F.slot_str_iterator_next (wpAny_call_entry F.slot_str_iterator_next hit.typeIs F.entry_str_iterator_next ?_ (F.args_str_iterator_next_1 _))))
  show wpAny _ _ (field (.ref jt) 0 >>= _) _ _ s
  refine wpAny_bind (wpAny_field hoi di (x := .str x t) rfl ?_)
  show wpAny _ _ (field (.ref jt) 1 >>= _) _ _ s
  refine wpAny_bind (wpAny_field hoi di (x := .int i 0) rfl ?_)
  simp only [Int.toNat_natCast, hend]
  refine wpAny_bind (wpAny_rule (wpAny_bind (wpAny_setField hoi di (by simp) (wpAny_bind (wpAny_letGo ?_)))))
  exact end_tail ne hot hQ fun _ _ => rfl
theorem parts_hot {tu : Addr} {items : Array Value} {Q : List Value → Shared → Prop} (hot : HotAt A x1 s.heap) (ht : IsTup s.heap tu items) (hQ : ∀ h', Heap.ExtBut s.heap.objs.size s.heap h' → Q items.toList { s with heap := h' }) :
    wpAny (model prog w) A (unpackItems (.ref tu) items.size none) Q E s := by
  have lt : tu ≠ s.heap.objs.size := by
    obtain ⟨o, ho, _⟩ := ht
    exact Nat.ne_of_lt (Heap.lt_size ho)
  have ne : x1 ≠ s.heap.objs.size := by
    obtain ⟨_, o, _, ho, _⟩ := hot
    exact Nat.ne_of_lt (Heap.lt_size ho)
  unfold unpackItems
  refine wpAny_bind ?_
  unfold notIterableAtAll
  refine wpAny_bind (wpAny_specialOf ht.typeIs slot_tuple_iter.lookup (wpAny_pure ?_))
  simp only [Bool.false_eq_true, if_false]
  refine wpAny_bind (wpAny_holding (iter_tuple ht (wpAny_bind (wpAny_holding (draw_tuple lt items.size 0 _ _ ⟨_, Heap.get?_push_size _ rfl, rfl, rfl⟩ (ht.push _) (by omega) fun h2 hit2 hs2 => ?_)))))
  have all : List.take items.size (List.drop 0 items.toList) = items.toList := by rw [List.drop_zero]; exact List.take_of_length_le (by simp)
  have ht2 : IsTup h2 tu items := (ht.push _).extBut hs2.extBut lt
  have hot2 : HotAt A x1 h2 := hot_keeps hot fun o e => hs2.extBut x1 o ne (Heap.get?_push_of_some _ e)
  rw [all, if_neg (by simp)]
  refine wpAny_bind (wpAny_holding (tup_end_hot (s := { s with heap := h2 }) ne hot2 hit2 ht2 (by simp) fun h3 e3 => ?_))
  simp only [Option.isSome_none, Bool.false_eq_true, if_false]
  exact wpAny_pure (hQ h3 fun b o hb e => e3 b o hb (hs2.extBut b o hb (Heap.get?_push_of_some _ e)))
theorem assign_tup_hot {env : Env} {elts : List Expr} {k} {pos : Pos} {tu : Addr} {items : Array Value} {Q : Unit → Shared → Prop} (hot : HotAt A x1 s.heap) (ht : IsTup s.heap tu items) (hn : (assignEach elts env).length = items.size) (hst : (assignEach elts env).findIdx? (·.1) = none)
    (h : ∀ h', Heap.ExtBut s.heap.objs.size s.heap h' → wpAny (model prog w) A (assignInOrder ((assignEach elts env).map (·.2)) items.toList) Q E { s with heap := h' }) : wpAny (model prog w) A (assign (.Tuple elts k pos) env (.ref tu)) Q E s := by
  rw [assign_Tuple]
  refine wpAny_bind (wpAny_standAt ?_)
  unfold unpack
  rw [hn, hst]
  exact wpAny_bind (wpAny_holding (parts_hot hot ht h))
end
/-- (a, b, ..) = a tuple of that length -/
theorem pg_tupH {X : Cx} {pos : Pos} {es : List Expr} {k : Nat} {t : TGs} {n : Nat} (hc : HotC X) (h : PGs X es t) (hn : (assignEach es X.env).length = n := by rfl) (hst : (assignEach es X.env).findIdx? (·.1) = none := by rfl) : PG X (.Tuple es k pos) (gTup X.K n t) := by
  refine ⟨fun pins s σ H v u Q I r hw => ?_⟩
  obtain ⟨a, xs, rfl, hq, hl, hw⟩ := hw
  cases r
  obtain ⟨its, rv, ht, hz⟩ := I.tuple hq
  obtain ⟨x1, hot⟩ := hc.at I
  refine assign_tup_hot hot ht (by simp [hn, ← hl, rv.length]) hst fun h' hx => ?_
  have I1 : Inv X pins σ H { s with heap := h' } := I.kept (t' := s.toks) fun b o e => hx b o (Nat.ne_of_lt (Heap.lt_size e)) e
  exact h.run pins _ σ H xs _ Q I1 (by simpa using rv) hw
theorem hot_ne {X : Cx} {pins : List (Addr × Obj)} {H : Hp} {s : Shared} {σ : L2.St} {b : Addr} (hc : HotC X) (I : Inv X pins σ H s) (f : ∀ p ∈ X.pn ++ pins, p.1 ≠ b) : ∃ x1, HotAt X.A x1 s.heap ∧ x1 ≠ b := by
  obtain ⟨p, ⟨hh, v1, e1, c1⟩, hp⟩ := hc
  have hm := List.mem_append_left pins hp
  exact ⟨p.1, ⟨hh, p.2, v1, (I.pin p hm).1, e1, c1⟩, f p hm⟩
theorem turn_listH {P : Program} {w : World} {K : PySem.W.Frag} {tg : Expr} (a jt : Addr) : TurnH P w K tg (Itl K a) [jt] jt (fun i h => h.IsListIter jt a i) where
  mem := .head _
  obj := fun i h st b hb => by
    obtain rfl := List.mem_singleton.mp hb
    obtain ⟨o, e, c, d⟩ := st
    exact ⟨o, e, fun v z => by rw [d] at z; cases z⟩
  keep := fun i h h' st k => st.at fun o e => k jt (.head _) o e
  item := by
    rintro X rfl rfl rfl hc i pins s σ H E I hf st ⟨xs, x, hq, hx⟩
    obtain ⟨its, rv, p, hz⟩ := I.list hq
    obtain ⟨u, hu, ru⟩ := rv.get hx
    obtain ⟨f0, f1, f2, f3, f4, f5⟩ := hf jt (.head _)
    refine wpAny_pyNext_list_item st p.isList (x := u) (by simpa using hu) fun h' st' sb => ?_
    have I1 : Inv X pins σ H { s with heap := h' } := I.turned (t' := s.toks) (fun b o hb e => (sb.2 b hb).trans e) f0 f1 f3 f4 f5
    obtain ⟨o, e, c, d⟩ := id st'
    refine ⟨u, rfl, go_of (s := { s with heap := h' }) e c d (by decide) ⟨x, H, I1, ru, ⟨rfl, fun ys hy => ?_⟩, st', fun b hb => (hf b hb).1⟩⟩
    rw [I.list_inj hy hq]; exact hx
  done := by
    rintro X rfl rfl rfl hc i pins s σ H E I hf st ⟨xs, hq, hx⟩
    obtain ⟨its, rv, p, hz⟩ := I.list hq
    obtain ⟨f0, f1, f2, f3, f4, f5⟩ := hf jt (.head _)
    obtain ⟨x1, hot, ne⟩ := hot_ne hc I f5
    have hl := rv.length
    refine list_end_hot ne hot st p.isList (by simp; omega) fun h' eb => ⟨rfl, ?_⟩
    exact I.turned (t' := s.toks) (fun b o hb e => eb b o hb e) f0 f1 f3 f4 f5
  self := fun _ _ _ _ _ st h => wpAny_pyIter_listiter st h
theorem turn_strH {P : Program} {w : World} {K : PySem.W.Frag} {tg : Expr} (jt : Addr) (x : Str) (t : Tok) (ty : String) (hty : ty = "str_ascii_iterator" ∨ ty = "str_iterator") : TurnH P w K tg (Its x) [jt] jt (fun i h => h.IsStrIter jt ty x t i) where
  mem := .head _
  obj := fun i h st b hb => by
    obtain rfl := List.mem_singleton.mp hb
    obtain ⟨o, e, c, d⟩ := st
    exact ⟨o, e, fun v z => by rw [d] at z; cases z⟩
  keep := fun i h h' st k => by
    obtain ⟨o, ho, r⟩ := st
    exact ⟨o, k jt (.head _) o ho, r⟩
  item := by
    rintro X rfl rfl rfl hc i pins s σ H E I hf st hg
    obtain ⟨f0, f1, f2, f3, f4, f5⟩ := hf jt (.head _)
    have hi : i < x.cps.size := hg
    have hx : x.cps[i]? = some x.cps[i] := by simp [hi]
    have go : ∀ h' : Heap, h'.IsStrIter jt ty x t (i + 1) → Heap.SameBut jt s.heap h' → ∃ u, some (Value.str ⟨#[x.cps[i]]⟩ s.toks) = some u ∧
        wpAny (model X.prog X.w) X.A (letOwnedTupleGo tg (.ref jt) u) (fun _ s2 => ∃ y H', Inv X pins σ H' s2 ∧ RelV y u ∧ (Its x).yld i H y H' ∧ s2.heap.IsStrIter jt ty x t (i + 1) ∧ ∀ b ∈ [jt], H' b = none) E { s with heap := h', toks := s.toks + 1 } := fun h' st' sb => by
      have I1 : Inv X pins σ H { s with heap := h', toks := s.toks + 1 } := I.turned (fun b o hb e => (sb.2 b hb).trans e) f0 f1 f3 f4 f5
      obtain ⟨oi, e, cc, dd⟩ := id st'
      refine ⟨_, rfl, go_of (s := { s with heap := h', toks := s.toks + 1 }) e cc dd ?_ ⟨.str ⟨#[x.cps[i]]⟩, H, I1, ⟨s.toks, rfl⟩, ⟨rfl, _, hx, rfl⟩, st', fun b hb => (hf b hb).1⟩⟩
      rcases hty with z | z <;> (rw [z]; decide)
    rcases hty with rfl | rfl
    · exact wpAny_pyNext_ascii_item st hx fun h' st' sb => go h' st' sb
    · exact wpAny_pyNext_wide_item st hx fun h' st' sb => go h' st' sb
  done := by
    rintro X rfl rfl rfl hc i pins s σ H E I hf st hg
    obtain ⟨f0, f1, f2, f3, f4, f5⟩ := hf jt (.head _)
    obtain ⟨x1, hot, ne⟩ := hot_ne hc I f5
    have hx : x.cps[i]? = none := Array.getElem?_eq_none hg
    have fin : ∀ h' : Heap, Heap.ExtBut jt s.heap h' → Inv X pins σ H { s with heap := h' } := fun h' eb => I.turned (t' := s.toks) (fun b o hb e => eb b o hb e) f0 f1 f3 f4 f5
    rcases hty with rfl | rfl
    · exact ascii_end_hot ne hot st hx fun h' eb => ⟨rfl, fin h' eb⟩
    · exact wide_end_hot ne hot st hx fun h' eb => ⟨rfl, fin h' eb⟩
  self := fun A i s Q E st h => by
    rcases hty with rfl | rfl
    · exact wpAny_pyIter_striter_ascii st h
    · exact wpAny_pyIter_striter_wide st h
section
variable {X : Cx} {tg : Expr}
theorem pi_oneH {pins : List (Addr × Obj)} {σ : L2.St} {H : Hp} {s : Shared} {R : It → Hp → Prop} {J : It} {tn : Nat → Heap → Prop} {o : Obj} {tk : Nat} (I : Inv X pins σ H s) (T : TurnH X.prog X.w X.K tg J [s.heap.objs.size] s.heap.objs.size tn) (t0 : tn 0 (s.heap.push o)) (q : R J H) :
    PIEH X pins σ tg R (.ref s.heap.objs.size) { s with heap := s.heap.push o, toks := tk } := by
  refine ⟨s.heap.objs.size, [s.heap.objs.size], _, J, H, rfl, I.kept fun b ob e => Heap.get?_push_of_some _ e, T, t0, fun b hb => ?_, q⟩
  obtain rfl := List.mem_singleton.mp hb
  exact I.fpOk (Nat.le_refl _) (I.hok.fresh (Nat.le_refl _))
theorem pi_listH (K : PySem.W.Frag) {l : Expr} {tl : TE} (hl : PE X l tl) (hK : X.K = K := by rfl) : PIH X tg l (iList K tl) := by
  subst hK
  refine ⟨fun pins s σ H R I h => thn (hl.run pins s σ H _ I h) fun v s1 ⟨x, H1, I1, r1, a, e, ⟨xs, hq⟩, q⟩ => ?_⟩
  subst e
  cases r1
  obtain ⟨its, rv, p, hz⟩ := I1.list hq
  exact wpAny_pyIter_list p.isList (pi_oneH (tk := s1.toks) I1 (turn_listH a _) ⟨_, Heap.get?_push_size _ rfl, rfl, rfl⟩ q)
theorem pi_strH {e : Expr} {te : TE} (he : PE X e te) : PIH X tg e (iStr te) := by
  refine ⟨fun pins s σ H R I h => thn (he.run pins s σ H _ I h) fun v s1 ⟨y, H1, I1, r1, x, ex, q⟩ => ?_⟩
  subst ex
  obtain ⟨t, rfl⟩ := r1
  cases ha : x.cps.all (· < 128)
  · exact wpAny_pyIter_wide ha (pi_oneH (tk := s1.toks) I1 (turn_strH _ x t "str_iterator" (.inr rfl)) ⟨_, Heap.get?_push_size _ rfl, rfl, rfl⟩ q)
  · exact wpAny_pyIter_ascii ha (pi_oneH (tk := s1.toks) I1 (turn_strH _ x t "str_ascii_iterator" (.inl rfl)) ⟨_, Heap.get?_push_size _ rfl, rfl, rfl⟩ q)
end
/-! ### a comprehension -/
/-- its block, the error that is held pinned -/
abbrev _root_.L2.Cx.blkH (X : Cx) (s : Shared) (H : Hp) (scope : Scope) (ce : Env) (fp : List Addr) : Cx := (X.blk s H scope ce fp).tr X.pn fun _ _ => False
section
variable {X : Cx}
/-- a block's start: the error that is held stays pinned -/
theorem blkH_start {pins : List (Addr × Obj)} {s : Shared} {σ : L2.St} {H : Hp} {scope : Scope} {own : List (Str × Nat)} {fp : List Addr} {ce : Env} (J : Inv X pins σ H s) (ok : BlkOk X.N X.env.scope scope own) (nd : X.N.Nodup) (hw : ∀ x ∈ fp, FpOk X pins H x ∧ x < s.heap.objs.size)
    (ec : compEnvC scope (cellsFrom (s.heap.objs.size + 1) scope.names (cloFrom X.env.cells scope.names [])) s.heap.objs.size X.env = ce) :
    Inv (X.blkH s H scope ce fp) [] (wipe σ (own.map (·.2))) H { s with heap := pushCells (s.heap.push { cls := .type "dict", data := .dict #[] }) scope.names } := by
  have S := block_start J ok nd hw
  rw [ec] at S
  have el : ce.locals = s.heap.objs.size := by rw [← ec]; rfl
  refine (S.pins_of (pins' := X.pn) fun e he => ?_).toTry fun _ _ => False
  obtain ⟨g1, g2, g3, g4, g5⟩ := J.pin e (List.mem_append_left _ he)
  refine ⟨pushCells_keeps _ _ _ _ (Heap.get?_push_of_some _ g1), g2, fun z => ?_, fun z => (List.mem_cons.mp (J.stkSub _ z)).elim g3 g4, g5⟩
  have z : e.1 = s.heap.objs.size := (show e.1 = ce.locals from z).trans el
  exact Nat.ne_of_lt (Heap.lt_size g1) z
/-- the block's loop -/
theorem lcH_loop {s3 s4 : Shared} {σ : L2.St} {H3 : Hp} {Qd : Hp → Prop} {elt tg iter : Expr} {ifs : List Expr} {scope : Scope} {vs : List Nat} {pos : Pos} {J : It} {g : TG} {tt : TT} {te : TE} {Rr : Result → Shared → Prop} {ce : Env} {jt M : Addr} {fp : List Addr} {tn : Nat → Heap → Prop} {W : Nat → Nat → Hp → Prop} {m0 : Nat}
    (hot : HotC X) (T : TurnH X.prog X.w X.K tg J fp jt tn) (pg : PG (X.blkH s3 H3 scope ce fp) tg g) (pt : PTs (X.blkH s3 H3 scope ce fp) ifs tt) (pe : PE (X.blkH s3 H3 scope ce fp) elt te) (away : ∀ x ∈ fp, ∀ e ∈ X.pn, e.1 ≠ x)
    (turn : ∀ i m H, W i m H → (J.stop i H ∧ Qd H) ∨ (J.go i H ∧ ∃ Nx : Hp → Prop, (∀ H', Nx H' → ∃ m', m' < m ∧ W (i + 1) m' H') ∧ ∀ x H', J.yld i H x H' → g x (wipe σ vs) H' fun σ2 H2 => wipe σ2 vs = wipe σ vs ∧ tt σ2 H2 fun b H3 =>
      if b = true then te σ2 H3 fun y H4 => ∃ acc, H4 M = some (.lst acc) ∧ acc.length < sizeLine ∧ Nx (upd H4 M (.lst (acc ++ [y]))) else Nx H3))
    (I4 : Inv (X.blkH s3 H3 scope ce fp) [] (wipe σ vs) H3 s4) (t4 : tn 0 s4.heap) (n4 : ∀ x ∈ fp, H3 x = none) (w0 : W 0 m0 H3)
    (fin : ∀ H' s', Inv (X.blkH s3 H3 scope ce fp) [] (wipe σ vs) H' s' → Qd H' → Rr (.ok .next) s') :
    codeAny (model X.prog X.w) X.A (.compLoop (.ListComp elt [⟨tg, iter, ifs, 0⟩] scope pos) 0 (.ref jt) (.ref M) ce) Rr s4 := by
  have hotY : HotC (X.blkH s3 H3 scope ce fp) := hot
  have fine : ∀ {τ : L2.St} {G : Hp} {s' : Shared}, Inv (X.blkH s3 H3 scope ce fp) [] τ G s' → (∀ x ∈ fp, G x = none) → ∀ x ∈ fp, FpOk (X.blkH s3 H3 scope ce fp) [] G x := fun {τ G s'} V hn x hx =>
    ⟨hn x hx, (V.ok.exf x hx).1, V.ok.exfs x hx, .inl hx, fun y c e => (V.ok.exf x hx).2 y c e, fun e he => away x hx e (by rw [List.append_nil] at he; exact he)⟩
  refine compLoop_any (fun k s' => ∃ i G, Inv (X.blkH s3 H3 scope ce fp) [] (wipe σ vs) G s' ∧ tn i s'.heap ∧ (∀ x ∈ fp, G x = none) ∧ W i k G) (fun k s5 ⟨i, G5, V5, t5, n5, w5⟩ => ?_) m0 ⟨0, H3, I4, t4, n4, w0⟩
  rcases turn i k G5 w5 with ⟨halt, dn⟩ | ⟨more, Nx, less, step⟩
  · exact thnF (T.done (X.blkH s3 H3 scope ce fp) rfl rfl rfl hotY i [] s5 _ G5 (fun _ _ => False) V5 (fine V5 n5) t5 halt) fun r s6 ⟨er, V6⟩ => by rw [er]; exact fin G5 s6 V6 dn
  refine thnF (T.item (X.blkH s3 H3 scope ce fp) rfl rfl rfl hotY i [] s5 _ G5 (fun _ _ => False) V5 (fine V5 n5) t5 more) fun r s6 ⟨u, er, w6⟩ => ?_
  rw [er]
  refine thnF w6 fun _ s7 ⟨x, G7, V7, r7, y7, t7, n7⟩ => ?_
  have P7 := V7.pinned (fine V7 n7) (T.obj _ _ t7)
  refine thnF (pg.run _ s7 _ G7 x u _ P7 r7 (step x G7 y7)) fun _ s8 ⟨τ, G8, V8, wp, k8⟩ => thnF (pt.run _ s8 τ G8 _ V8 k8) fun yes s9 ⟨G9, V9, k9⟩ => ?_
  have again : ∀ {s' : Shared} {G : Hp}, Inv (X.blkH s3 H3 scope ce fp) ([] ++ pinsAt fp s7.heap) τ G s' → Nx G → ∃ k', k' < k ∧ ∃ i G', Inv (X.blkH s3 H3 scope ce fp) [] (wipe σ vs) G' s' ∧ tn i s'.heap ∧ (∀ x ∈ fp, G' x = none) ∧ W i k' G' := fun {s' G} V nx => by
    obtain ⟨k', lt, w'⟩ := less G nx
    have here : ∀ x ∈ fp, ∀ o, s7.heap.get? x = some o → s'.heap.get? x = some o ∧ G x = none := fun x hx o e =>
      ⟨(V.pin (x, o) (List.mem_append_right _ (List.mem_append_right _ (mem_pinsAt hx e)))).1, (V.pin (x, o) (List.mem_append_right _ (List.mem_append_right _ (mem_pinsAt hx e)))).2.1⟩
    have V' := (V.unpinned (pins := [])).weak (σ' := wipe σ vs) (by rw [← wp, wipe_length]) fun l v e => (wipe_some (by rw [wp]; exact e)).1
    refine ⟨k', lt, i + 1, G, V', T.keep _ _ _ t7 fun x hx o e => (here x hx o e).1, fun x hx => ?_, w'⟩
    obtain ⟨o, e, _⟩ := T.obj _ _ t7 x hx
    exact (here x hx o e).2
  cases yes with
  | false => exact again V9 (by simpa using k9)
  | true =>
    have k9 : te τ G9 fun y H4 => ∃ acc, H4 M = some (.lst acc) ∧ acc.length < sizeLine ∧ Nx (upd H4 M (.lst (acc ++ [y]))) := by simpa using k9
    rw [if_pos rfl]
    exact thnF (pe.run _ s9 τ G9 _ V9 k9) fun z sA ⟨y, GA, VA, rA, acc, eA, zA, nx⟩ => app_ok (X := X.blkH s3 H3 scope ce fp) VA eA zA rA fun sB VB => again VB nx
theorem lcH_core {pins : List (Addr × Obj)} {s : Shared} {σ : L2.St} {H : Hp} {Q : VK} {elt tg iter : Expr} {ifs : List Expr} {scope : Scope} {own : List (Str × Nat)} {pos pos' : Pos} {wi : TI} {g : TG} {tt : TT} {te : TE} {Qf : Value → Shared → Prop}
    (hot : HotC X) (nd : X.N.Nodup) (I : Inv X pins σ H s) (hi : PIH X tg iter wi) (ok : BlkOk X.N X.env.scope scope own) (hg : ∀ s H C cl fp, PG (X.blkH s H scope (compEnvC scope cl C X.env) fp) tg g) (ht : ∀ s H C cl fp, PTs (X.blkH s H scope (compEnvC scope cl C X.env) fp) ifs tt)
    (he : ∀ s H C cl fp, PE (X.blkH s H scope (compEnvC scope cl C X.env) fp) elt te) (hs : ∀ x, foldedSetIterable iter X.env x = pure x) (h : tLc wi g tt te (own.map (·.2)) σ H Q)
    (back : ∀ D C s' m H', Inv X pins σ H' s' → Q (.ref D) H' → s'.heap.Ns C m → FpOk X pins H' C → compPost (model X.prog X.w) X.A X.xe none Qf (.ref D) C (.ok .next) s') :
    wpAny (model X.prog X.w) X.A (comprehension (.ListComp elt [⟨tg, iter, ifs, 0⟩] scope pos) scope X.env pos' (newList []) false (eval iter X.env) none) Qf X.xe s := by
  have fre : ∀ y ∈ scope.names, y.2 = .free → ∃ c, X.env.cells.lookup y.1 = some c := fun y hy e => (ok.free y hy e).elim (fun k => I.ok.has _ (.inl k)) fun k => I.ok.has _ (.inr k)
  refine wpAny_comprehension_free (use := none) rfl hs (closure_ok fre) ok.kind (fun y hy e => by rw [ok.uniq y hy, e]) (thn (hi.run pins s σ H _ I h) fun xv s1 hx => thn hx fun itv s2 ⟨jt, fp, tn, J, H2, ej, I2, T, t2, f2, q⟩ => ?_)
  subst ej
  refine wpAny_newObj_type (newEnv_comp ?_) (Nat.zero_le _)
  have free2 : H2 s2.heap.objs.size = none := I2.hok.fresh (Nat.le_refl _)
  obtain ⟨W, ⟨m0, w0⟩, turn⟩ := q _ free2
  have older : ∀ x ∈ fp, x < s2.heap.objs.size := fun x hx => by
    obtain ⟨o, e, _⟩ := T.obj _ _ t2 x hx
    exact Heap.lt_size e
  -- the list that is to be filled
  obtain ⟨s3, e3⟩ : ∃ s3 : Shared, s3 = { s2 with heap := s2.heap.push { cls := .type "list", data := .seq ([] : List Value).toArray } } := ⟨_, rfl⟩
  have z3 : s3.heap.objs.size = s2.heap.objs.size + 1 := by rw [e3]; exact Heap.size_push ..
  have k3 : ∀ x o, s2.heap.get? x = some o → s3.heap.get? x = some o := fun x o e => by rw [e3]; exact Heap.get?_push_of_some _ e
  have I3 : Inv X pins σ (upd H2 s2.heap.objs.size (.lst [])) s3 := by
    rw [e3]
    exact I2.laid (t' := s2.toks) (fun _ _ e => Heap.get?_push_of_some _ e) (Nat.le_refl _) ⟨Nat.zero_le _, [], 0, .nil, Heap.get?_push_size _ rfl⟩
  have w3 : ∀ x ∈ fp, FpOk X pins (upd H2 s2.heap.objs.size (.lst [])) x ∧ x < s3.heap.objs.size := fun x hx =>
    ⟨⟨by rw [upd_ne (Nat.ne_of_lt (older x hx))]; exact (f2 x hx).1, (f2 x hx).2⟩, by rw [z3]; exact Nat.lt_succ_of_lt (older x hx)⟩
  have t3 : tn 0 s3.heap := T.keep _ _ _ t2 fun x _ o e => k3 x o e
  rw [← e3]
  obtain ⟨ce, ec⟩ : ∃ ce, compEnvC scope (cellsFrom (s3.heap.objs.size + 1) scope.names (cloFrom X.env.cells scope.names [])) s3.heap.objs.size X.env = ce := ⟨_, rfl⟩
  have el : ce.locals = s3.heap.objs.size := by rw [← ec]; rfl
  have I4 := blkH_start I3 ok nd w3 ec
  have t4 : tn 0 (pushCells (s3.heap.push { cls := .type "dict", data := .dict #[] }) scope.names) := T.keep _ _ _ t3 fun x _ o e => pushCells_keeps _ _ _ _ (Heap.get?_push_of_some _ e)
  have fin : ∀ (G : Hp) (s' : Shared), Inv (X.blkH s3 (upd H2 s2.heap.objs.size (.lst [])) scope ce fp) [] (wipe σ (own.map (·.2))) G s' → Q (.ref s2.heap.objs.size) G → compPost (model X.prog X.w) X.A X.xe none Qf (.ref s2.heap.objs.size) s3.heap.objs.size (.ok .next) s' := fun G s' V dn => by
    have home : Inv X pins σ G s' := I3.call' (ch := fp) V.os V.base V.hok V.bare fun x hx => ⟨(f2 x hx).2.2.2.1, (f2 x hx).2.1, (f2 x hx).2.2.2.2.1, (f2 x hx).2.2.2.2.2⟩
    obtain ⟨m, nm, _⟩ := V.loc
    have nm : s'.heap.Ns s3.heap.objs.size m := by rw [← el]; exact nm
    exact back s2.heap.objs.size s3.heap.objs.size s' m G home dn nm (I3.fpOk (Nat.le_refl _) (by rw [← el]; exact V.free))
  have gg := hg s3 (upd H2 s2.heap.objs.size (.lst [])) s3.heap.objs.size (cellsFrom (s3.heap.objs.size + 1) scope.names (cloFrom X.env.cells scope.names [])) fp
  have gt := ht s3 (upd H2 s2.heap.objs.size (.lst [])) s3.heap.objs.size (cellsFrom (s3.heap.objs.size + 1) scope.names (cloFrom X.env.cells scope.names [])) fp
  have ge := he s3 (upd H2 s2.heap.objs.size (.lst [])) s3.heap.objs.size (cellsFrom (s3.heap.objs.size + 1) scope.names (cloFrom X.env.cells scope.names [])) fp
  rw [ec] at gg gt ge
  have loop := lcH_loop (vs := own.map (·.2)) (pos := pos) (iter := iter) hot T gg gt ge (fun x hx e he => (f2 x hx).2.2.2.2.2 e (List.mem_append_left _ he)) turn I4 t4 (fun x hx => (w3 x hx).1.1) w0 fin
  rw [← ec] at loop
  exact codeAny_compStart_list loop (T.self X.A 0 _ _ _ t4 loop)
theorem pe_lcH {elt tg iter : Expr} {ifs : List Expr} {scope : Scope} {own : List (Str × Nat)} {pos : Pos} {wi : TI} {g : TG} {tt : TT} {te : TE} (hc : HotC X) (hN : X.N.Nodup) (hi : PIH X tg iter wi) (ok : BlkOk X.N X.env.scope scope own)
    (hg : ∀ s H C cl fp, PG (X.blkH s H scope (compEnvC scope cl C X.env) fp) tg g) (ht : ∀ s H C cl fp, PTs (X.blkH s H scope (compEnvC scope cl C X.env) fp) ifs tt) (he : ∀ s H C cl fp, PE (X.blkH s H scope (compEnvC scope cl C X.env) fp) elt te)
    (hs : ∀ x, foldedSetIterable iter X.env x = pure x := by intro _; rfl) : PE X (.ListComp elt [⟨tg, iter, ifs, 0⟩] scope pos) (tLc wi g tt te (own.map (·.2))) := by
  refine ⟨fun pins s σ H Q I h => ?_⟩
  rw [eval_ListComp]
  refine lcH_core hc hN I hi ok hg ht he hs h fun D C s' m H' I' q hn f => ⟨m, hn, fun h'' sb => ⟨.ref D, H', ?_, rfl, q⟩⟩
  exact I'.turned (t' := s'.toks) (fun b o hb e => (sb.2 b hb).trans e) f.1 f.2.1 f.2.2.2.1 f.2.2.2.2.1 f.2.2.2.2.2
end
/-! ### all of a list -/
section
variable {prog : Program} {w : World} {A : Around} {x1 : Addr}
theorem walks_hot {o1 : Obj} {vs1 : Array Value} (hh : A.handled = some (.ref x1)) (d1 : o1.data = .fields vs1) (c1 : vs1[2]? = some .none) (jt ax : Addr) (hne : ax ≠ jt) (hx : x1 ≠ jt) (items : Array Value) :
    Walks prog w A jt [jt, ax, x1] [jt] items.size (fun i v => items[i]? = some v) (fun i h => h.IsListIter jt ax i ∧ h.IsList ax items ∧ h.get? x1 = some o1) where
  sub := fun b hb => by rw [List.mem_singleton.mp hb]; exact .head _
  frame := fun _ _ _ st k => ⟨st.1.at fun o e => k jt (.head _) o e, st.2.1.at fun o e => k ax (.tail _ (.head _)) o e, k x1 (.tail _ (.tail _ (.head _))) _ st.2.2⟩
  item := fun i s Q E hi st hQ => wpAny_pyNext_list_item st.1 st.2.1 (x := items[i]) (by simp [hi]) fun h' hit' sb =>
    hQ _ h' s.toks (by simp [hi]) ⟨hit', st.2.1.extBut sb.extBut hne, sb.extBut x1 o1 hx st.2.2⟩ fun b o hb e => sb.extBut b o (fun h => hb (by rw [h]; exact .head _)) e
  done := fun s Q E st hQ => list_end_hot hx ⟨hh, o1, vs1, st.2.2, d1, c1⟩ st.1 st.2.1 (by simp) fun h' he => hQ h' s.toks fun b o hb e => he b o (fun h => hb (by rw [h]; exact .head _)) e
  self := fun _ _ _ _ st hQ => wpAny_pyIter_listiter st.1 hQ
end
theorem kc_allH {X : Cx} (K : PySem.W.Frag) (hc : HotC X) (h : X.K = K := by rfl) : CallR X (.builtin "all") (rAll K) := by
  subst h
  intro pins s σ H vs us Q I r h
  obtain ⟨a, bs, rfl, hs, q⟩ := h
  obtain ⟨its, rv, hl, _⟩ := I.list hs
  rw [Vals.ref1 r]
  have hb := rv.bls
  obtain ⟨p, ⟨hh, v1, e1, c1⟩, hp⟩ := hc
  have P1 := (I.pin p (List.mem_append_left _ hp)).1
  refine call_all_walk (iter_any hl.isList fun s2 e2 st hne => ?_)
  subst e2
  refine ⟨_, _, _, _, _, _, _, rfl, walks_hot (A := X.A.in1) hh e1 c1 _ a hne (Nat.ne_of_lt (Heap.lt_size P1)) its.toArray, ⟨st.1, st.2, Heap.get?_push_of_some _ P1⟩, truth_bools hb, fun h' tk hk => ⟨.bl _, H, I.kept fun b o eo => hk b o (fun hm => ?_) (Heap.get?_push_of_some _ eo), ?_, q⟩⟩
  · rw [List.mem_singleton.mp hm] at eo
    exact absurd (Heap.lt_size eo) (Nat.lt_irrefl _)
  · show Value.bool _ = Value.bool _
    rw [← L2.all_range, hb, List.size_toArray, List.length_map]
/-! ### defs, methods, classes, told of where an error is held -/
structure CalH (P : Program) (w : World) (K : PySem.W.Frag) (mg : Str → Option Value) (base : Heap) (k : Nat) (x : Str) (ps : List Str) (sp : Sp) : Prop where
  ex : ∃ f fd, FnH P w K mg base CX0 k f fd ps sp ∧ mg x = some (.ref f) ∧ PySem.W.keepIn K (.ref f) = true ∧ Binds K fd ps []
structure MCalH (P : Program) (w : World) (K : PySem.W.Frag) (mg : Str → Option Value) (base : Heap) (k : Nat) (C : Addr) (m : Str) (ps : List Str) (sp : Sp) : Prop where
  cls : Cls K C
  ex : ∃ f fd, Meth K C m f ∧ FnH P w K mg base CX0 k f fd ps sp ∧ Binds K fd ps []
structure MkCH (P : Program) (w : World) (K : PySem.W.Frag) (mg : Str → Option Value) (base : Heap) (k : Nat) (C : Addr) (x : Str) (ps : List Str) (sp : Sp) : Prop where
  ex : ∃ f fd, Mk K C f ∧ FnH P w K mg base CX0 k f fd ps sp ∧ Binds K fd ps []
  g : mg x = some (.ref C)
section
variable {X : Cx} {k : Nat} {f C : Addr} {fd : FuncData} {ps : List Str} {sp : Sp} {x m : Str} {q p pos apos : Pos} {e o : Expr} {es : List Expr} {ta : TE} {t : TA}
theorem passH {σ : L2.St} : PassesAt CX0 X σ E0 := fun _ _ _ _ _ _ h => h.elim
theorem _root_.L2H.RoomH.units65 {k : Nat} {A : Around} (r : RoomH k A) : A.units + 65 < cLine := by have := r.un; omega
theorem _root_.L2H.RoomH.units {k : Nat} {A : Around} (r : RoomH k A) : A.units + 64 < cLine := by have := r.un; omega
theorem pe_calH (c : CalH X.prog X.w X.K X.mg X.base k x ps sp) (hr : RoomH k X.A) (hc : HotC X) (ha : PA X (e :: es) t) (hg : Gl X x := by rfl) (hdb : (x == ("__debug__" : Str)) = false := by decide) (he : starEach (e :: es) X.env = (false, eval e X.env) :: starEach es X.env := by rfl) (hpl : (backTo pos (starEach es X.env)).any (·.1) = false := by rfl) :
    PE X (.Call (.Name x q) (e :: es) [] pos) (tCall sp [] E0 t) := by
  obtain ⟨f, fd, F, hm, hk, hb⟩ := c.ex
  refine ⟨fun pins s σ H Q I h => (pe_callH (E := fun _ => E0) F hr hc hg hm hk hb (fun _ => passH) ha hdb he hpl).run pins s σ H Q I ?_⟩
  have z : (fun (vs : List V) (H1 : Hp) => sp (vs ++ []) H1 Q E0) = fun vs H1 => sp vs H1 Q E0 := by funext vs H1; rw [List.append_nil]
  have h : t σ H (fun vs H1 => sp (vs ++ []) H1 Q E0) := h
  rw [z] at h
  exact h
theorem pe_mH {pl : Sem Bool} (B : MCalH X.prog X.w X.K X.mg X.base k C m ps sp) (he : PE X o ta) (hr : RoomH k X.A) (hc : HotC X) (ha : PA X (e :: es) t)
    (hst : starEach (e :: es) X.env = (false, eval e X.env) :: starEach es X.env := by rfl) (hpl : (backTo pos (starEach es X.env)).any (·.1) = false := by rfl)
    (ht : eval (.Call (.Attribute o m apos) (e :: es) [] pos) X.env = (do
      let ov ← eval o X.env; standAt apos.atName; let (f, first) ← holding [ov] (getMethod ov m pl); callWith pos f first (backTo pos (starEach (e :: es) X.env)) (backToKw pos (keywordEach [] X.env))) := by rfl) :
    PE X (.Call (.Attribute o m apos) (e :: es) [] pos) (tM C m sp E0 ta t) := by
  obtain ⟨f, fd, hm, F, hb⟩ := B.ex
  refine ⟨fun pins s σ H Q I h => PySem.W.methodCall_KW (pl := pl) (thn (he.run pins s σ H _ I h) fun u s1 ⟨x, H1, I1, rx, ⟨a, dx, fs, ex, ea, l⟩, q⟩ => ?_) ht⟩
  subst ex
  obtain rfl : u = Value.ref a := rx
  refine getmeth_ok I1 ea B.cls hm l (PySem.W.callWith_K (first := [.ref a]) (h₀ := X.base) I.ok.mod.kin hm.kp (thn (ha.run pos pins s1 σ H1 _ I1 q) fun us s2 ⟨vs, H2, I2, r, q2⟩ => ⟨I2.kIn, ?_⟩) hst hpl)
  exact run_fnH (us := .ref a :: us) (vs := .ref a :: vs) (E := fun _ => E0) F hr hc hb passH I2 (.cons rfl r) q2
theorem pe_m0H {pl : Sem Bool} (B : MCalH X.prog X.w X.K X.mg X.base k C m ps sp) (he : PE X o ta) (hr : RoomH k X.A) (hc : HotC X)
    (ht : eval (.Call (.Attribute o m apos) [] [] pos) X.env = (do
      let ov ← eval o X.env; standAt apos.atName; let (f, first) ← holding [ov] (getMethod ov m pl); callWith pos f first (backTo pos (starEach [] X.env)) (backToKw pos (keywordEach [] X.env))) := by rfl) :
    PE X (.Call (.Attribute o m apos) [] [] pos) (tM C m sp E0 ta tNil) := by
  obtain ⟨f, fd, hm, F, hb⟩ := B.ex
  refine ⟨fun pins s σ H Q I h => PySem.W.methodCall_KW (pl := pl) (thn (he.run pins s σ H _ I h) fun u s1 ⟨x, H1, I1, rx, ⟨a, dx, fs, ex, ea, l⟩, q⟩ => ?_) ht⟩
  subst ex
  obtain rfl : u = Value.ref a := rx
  exact getmeth_ok I1 ea B.cls hm l (PySem.W.callWith_K0 (first := [.ref a]) I1.kIn hm.kp (run_fnH (us := [.ref a]) (vs := [.ref a]) (E := fun _ => E0) F hr hc hb passH I1 (.cons rfl .nil) q))
theorem pe_mkCH (M : MkCH X.prog X.w X.K X.mg X.base k C x ps sp) (hr : RoomH (k + 1) X.A) (hc : HotC X) (ha : PA X (e :: es) t)
    (hg : Gl X x := by rfl) (hdb : (x == ("__debug__" : Str)) = false := by decide) (he : starEach (e :: es) X.env = (false, eval e X.env) :: starEach es X.env := by rfl) (hpl : (backTo pos (starEach es X.env)).any (·.1) = false := by rfl) :
    PE X (.Call (.Name x p) (e :: es) [] pos) (tMkC C sp E0 t) := by
  obtain ⟨f, fd, mk, F, hb⟩ := M.ex
  refine ⟨fun pins s σ H Q I h => wpAny_Call_Name_kw (ld_glob I hg M.g ?_ hdb)⟩
  refine PySem.W.callWith_K (h₀ := X.base) I.ok.mod.kin mk.kp (thn (ha.run pos pins s σ H _ I h) fun us s1 ⟨vs, H1, I1, r, hq⟩ => ⟨I1.kIn, ?_⟩) he hpl
  have h2 := hq (s1.heap.objs.size + 1) s1.heap.objs.size (I1.hok.fresh (Nat.le_succ _)) (I1.hok.fresh (Nat.le_refl _)) (Nat.ne_of_lt (Nat.lt_succ_self _))
  have I2 := Inv.made (C := C) I1
  have r2 : Vals (V.ref (s1.heap.objs.size + 1) :: vs) (Value.ref (s1.heap.objs.size + 1) :: us) := .cons rfl r
  have hl : (Value.ref (s1.heap.objs.size + 1) :: us ++ []).length = ps.length := by
    rw [List.append_nil, ← F.len _ _ _ _ h2]; exact r2.length.symm
  have b2 := hb _ (Value.ref (s1.heap.objs.size + 1) :: us) I2.kIn hl
  rw [List.append_nil] at b2
  obtain ⟨pn, hot, hpn⟩ := hc
  have P1 := I2.pin pn (List.mem_append_left _ hpn)
  show wpAny _ _ (call (.ref C) us) _ _ _
  refine wpAny_call (make_map (f := f) I1.kIn mk.makes mk.init (beq_iff_eq.mp mk.fn) (codeAny_mono (F.run _ X.stack _ _ ⟨Value.ref (s1.heap.objs.size + 1) :: us, []⟩ _ _ _ E0 pn (hr.make C us []) ⟨hot.1, hot.2⟩
    ⟨P1.1, P1.2.1, fun hm => (List.mem_cons.mp (I2.stkSub pn.1 hm)).elim P1.2.2.1 P1.2.2.2.1, P1.2.2.2.2⟩ (I2.env0.make C us []) b2 r2 h2) fun r s' hq' => ?_))
  cases r with
  | error e => exact hq'.elim
  | ok fl =>
    cases fl with
    | ret u =>
      obtain ⟨v, H', I3, rv, ev, q3⟩ := I2.after hq'
      subst ev
      exact ⟨rv, ⟨V.ref (s1.heap.objs.size + 1), H', I3, rfl, q3⟩⟩
    | next => exact hq'.elim
    | brk => exact hq'.elim
    | cont => exact hq'.elim
end
theorem MCalH.mono {P : Program} {w : World} {K : PySem.W.Frag} {mg : Str → Option Value} {base : Heap} {j k : Nat} {C : Addr} {m : Str} {ps : List Str} {sp : Sp} (c : MCalH P w K mg base j C m ps sp) (h : j ≤ k) : MCalH P w K mg base k C m ps sp := by
  obtain ⟨f, fd, hm, F, r⟩ := c.ex
  exact ⟨c.cls, f, fd, hm, ⟨F.len, fun A outer s H args us vs Q E p hr => F.run A outer s H args us vs Q E p (hr.mono h)⟩, r⟩
section
variable {P : Program} {w : World} {K : PySem.W.Frag} {mg : Str → Option Value} {base : Heap}
/-- the body's context -/
abbrev cxH0 (P : Program) (w : World) (K : PySem.W.Frag) (mg : Str → Option Value) (base : Heap) (N : List Str) (q : Str) (sc : Scope) (f : Addr) (cdv : Value) (A : Around) (outer : List Env) (s : Shared) (H : Hp) (p : Addr × Obj) : Cx := cxH CX0 P w K mg base N q sc f cdv A outer s H E0 p
theorem hotC_of {N : List Str} {q : Str} {sc : Scope} {f : Addr} {cdv : Value} {A : Around} {outer : List Env} {s : Shared} {H : Hp} {E : XK} {p : Addr × Obj} (h : Hot1 A p) : HotC (cxH CX0 P w K mg base N q sc f cdv A outer s H E p) := ⟨p, ⟨h.1, h.2⟩, .head _⟩
/-- what a body is to show -/
def BodyH (P : Program) (w : World) (K : PySem.W.Frag) (mg : Str → Option Value) (base : Heap) (N : List Str) (q : Str) (st : Stmt) (k : Nat) (sp : Sp) : Prop :=
  ∀ (f : Addr) (cdv : Value) (A : Around) (outer : List Env) (s : Shared) (H : Hp) (vs : List V) (Q : VK) (E : XK) (p : Addr × Obj), HotC (cxH CX0 P w K mg base N q (defScope st) f cdv A outer s H E p) → RoomH k (A.deeper (envOfC q (defScope st) s.heap.objs.size f cdv)) → sp vs H Q E →
    ∃ t, PSs (cxH CX0 P w K mg base N q (defScope st) f cdv A outer s H E p) (defBody st) t ∧ t { nx := fun _ H' => Q .non H', rt := Q } (L2.start N vs) H
theorem fun_okH {x q : Str} {st : Stmt} {N ps : List Str} {k : Nat} {sp : Sp} {f : Addr} {fd : FuncData} (F : Fun K x q st f fd) (S : FnScope N ps (defScope st)) (len : ∀ vs H Q E, sp vs H Q E → vs.length = ps.length) (b : BodyH P w K mg base N q st k sp) : FnH P w K mg base CX0 (k + 1) f fd ps sp := by
  obtain ⟨oc, od, kV, doc, pm, an, cdv, ct, osl, rfl, lk, hcd⟩ := F.ex
  exact fn_ofH lk hcd S len fun A outer s H vs Q E p hot hr h => b f cdv A outer s H vs Q E p (hotC_of hot) hr h
theorem mcal_ofH {C : Addr} {m q : Str} {st : Stmt} {N ps : List Str} {k : Nat} {sp : Sp} (c : Cls K C) (D : MAt K C m q st ps) (S : FnScope N ps (defScope st)) (len : ∀ vs H Q E, sp vs H Q E → vs.length = ps.length) (b : BodyH P w K mg base N q st k sp) : MCalH P w K mg base (k + 1) C m ps sp := by
  obtain ⟨f, fd, M, F, hb⟩ := D.ex
  exact ⟨c, f, fd, M, fun_okH F S len b, hb⟩
theorem mkc_ofH {C : Addr} {x q : Str} {st : Stmt} {N ps : List Str} {k : Nat} {sp : Sp} (g : mg x = some (.ref C)) (D : IAt K C q st ps) (S : FnScope N ps (defScope st)) (len : ∀ vs H Q E, sp vs H Q E → vs.length = ps.length) (b : BodyH P w K mg base N q st k sp) : MkCH P w K mg base (k + 1) C x ps sp := by
  obtain ⟨f, fd, M, F, hb⟩ := D.ex
  exact ⟨⟨f, fd, M, fun_okH F S len b, hb⟩, g⟩
theorem cal_ofH {x : Str} {st : Stmt} {N ps : List Str} {k : Nat} {sp : Sp} (D : DefAt K mg x st ps) (S : FnScope N ps (defScope st)) (len : ∀ vs H Q E, sp vs H Q E → vs.length = ps.length) (b : BodyH P w K mg base N x st k sp) : CalH P w K mg base (k + 1) x ps sp := by
  obtain ⟨f, fd, F, hm, hb⟩ := D.ex
  exact ⟨f, fd, fun_okH F S len b, hm, F.kp, hb⟩
end
/-- what is never reached -/
theorem ps_dead {X : Cx} {st : Stmt} : PS X st fun _ _ _ => False := ⟨fun _ _ _ _ _ _ h => h.elim⟩
theorem pss_dead {X : Cx} {b : List Stmt} : PSs X b fun _ _ _ => False := ⟨fun _ _ _ _ _ _ h => h.elim⟩
theorem pe_dead {X : Cx} {e : Expr} : PE X e fun _ _ _ => False := ⟨fun _ _ _ _ _ _ h => h.elim⟩
/-! ### an error whose context is known: raised by a method, held by a suite -/
section
variable {P : Program} {w : World} {K : PySem.W.Frag} {mg : Str → Option Value} {base : Heap}
theorem mcal_ofN {C : Addr} {m q : Str} {st : Stmt} {N ps : List Str} {k : Nat} {sp : Sp} (c : Cls K C) (D : MAt K C m q st ps) (S : FnScope N ps (defScope st)) (len : ∀ vs H Q E, sp vs H Q E → vs.length = ps.length)
    (hbody : ∀ (f : Addr) (cdv : Value) (A : Around) (outer : List Env) (s : Shared) (H : Hp) (vs : List V) (Q : VK) (E : XK), Room k (A.deeper (envOfC q (defScope st) s.heap.objs.size f cdv)) → sp vs H Q E →
      ∃ t, PSs (cxOf (L2N.CX P w) P w K mg base N q (defScope st) f cdv A outer s H E) (defBody st) t ∧ t { nx := fun _ H' => Q .non H', rt := Q } (L2.start N vs) H) : MCal P w K mg base (L2N.CX P w) (k + 1) C m ps sp := by
  obtain ⟨f, fd, M, F, b⟩ := D.ex
  obtain ⟨oc, od, kV, doc, pm, an, cdv, ct, osl, rfl, lk, hcd⟩ := F.ex
  exact ⟨c, f, _, M, fn_of lk hcd S len fun A outer s H vs Q E hr h => hbody f cdv A outer s H vs Q E hr h, b⟩
end
section
variable {X : Cx} {k : Nat} {C : Addr} {ps : List Str} {sp : Sp} {ES : L2.St → XK} {m : Str} {pos apos : Pos} {o : Expr} {ta : TE}
theorem takesN0 : L2N.Takes X (fun _ _ _ _ => False) := fun _ _ x => by
  obtain ⟨_, _, _, _, _, _, _, _, _, _, _, _, _, _, _, _, z⟩ := x
  exact z.elim
theorem pe_mSN0 {pl : Sem Bool} (B : MCal X.prog X.w X.K X.mg X.base (L2N.CX X.prog X.w) k C m ps sp) (he : PE X o ta) (hr : Room k X.A) (hx : ∀ σ, PassesAt (L2N.CX X.prog X.w) X σ (ES σ))
    (ht : eval (.Call (.Attribute o m apos) [] [] pos) X.env = (do
      let ov ← eval o X.env; standAt apos.atName; let (f, first) ← holding [ov] (getMethod ov m pl); callWith pos f first (backTo pos (starEach [] X.env)) (backToKw pos (keywordEach [] X.env))) := by rfl) :
    PE X (.Call (.Attribute o m apos) [] [] pos) (tMS C m sp ES ta tNil) := by
  obtain ⟨f, fd, hm, F, hb⟩ := B.ex
  refine ⟨fun pins s σ H Q I h => PySem.W.methodCall_KW (pl := pl) (thn (he.run pins s σ H _ I h) fun u s1 ⟨x, H1, I1, rx, ⟨a, dx, fs, ex, ea, l⟩, q⟩ => ?_) ht⟩
  subst ex
  obtain rfl : u = Value.ref a := rx
  exact getmeth_ok I1 ea B.cls hm l (PySem.W.callWith_K0 (first := [.ref a]) I1.kIn hm.kp (run_fnS (us := [.ref a]) (vs := [.ref a]) F hr hb (hx σ) I1 (.cons rfl .nil) q))
theorem hot_suite {a : Addr} {oe : Obj} {cls : Value} {d : Option Addr} {pn : List (Addr × Obj)} (hz : L2N.Zn cls d oe) (hf : ∃ vs, oe.data = .fields vs) : HotC (X.suite a ((a, oe) :: pn)) := by
  obtain ⟨vs, hd⟩ := hf
  exact ⟨(a, oe), ⟨rfl, vs, hd, hz.2.2 vs hd⟩, .head _⟩
end
end Of

set_option Elab.async false
set_option linter.all false
set_option maxRecDepth 100000
set_option maxHeartbeats 4000000
namespace Of
open PySem PyProof.Rows L2
local macro_rules | `(tactic| walk_at "go") => `(tactic| repeat (first
  | refine ⟨_, rfl, ?_⟩
  | refine ⟨_, _, rfl, rfl, ?_⟩
  | refine ⟨_, _, rfl, ?_⟩
  | refine And.intro rfl ?_
  | refine And.intro ⟨_, rfl⟩ ?_
  | refine And.intro (Evl.sz_of (of_decide_eq_true rfl)) ?_
  | (refine ite_yes ?_ ?_; decide +kernel)
  | (refine ite_no ?_ ?_; decide +kernel)
  | (refine And.intro ?_ ?_; (try dsimp only); omega)
  | (refine And.intro (And.intro ?_ ?_) ?_; omega; omega)
  | (refine And.intro (Or.inr (And.intro ?_ ?_)) ?_; omega; omega)
  | (refine And.intro (Or.inl (And.intro ?_ ?_)) ?_; omega; omega)
  | (refine And.intro (And.intro ?_ (And.intro ?_ ?_)) ?_; decide; decide; decide)
  | (refine And.intro ?_ ?_; (with_reducible (show (0 : Int) < (10 : Int) ^ _)); decide)))
local macro_rules | `(tactic| walk_at "fork") => `(tactic| (repeat' (refine ite2 (fun h => ?_) (fun h => ?_) <;> walk_at "go")))
local macro_rules | `(tactic| walk_at "gox") => `(tactic| repeat (first
  | refine ⟨_, rfl, ?_⟩
  | refine ⟨_, _, rfl, rfl, ?_⟩
  | refine ⟨_, _, rfl, ?_⟩
  | refine And.intro rfl ?_
  | refine And.intro ⟨_, rfl⟩ ?_
  | refine And.intro (Evl.sz_of (of_decide_eq_true rfl)) ?_
  | refine ite_bang ?_
  | (refine ite_yes ?_ ?_; (first | assumption | (decide +kernel)))
  | (refine ite_no ?_ ?_; (first | assumption | (decide +kernel)))
  | (refine And.intro ?_ ?_; (try dsimp only); omega)
  | (refine And.intro (And.intro ?_ ?_) ?_; omega; omega)
  | (refine And.intro (Or.inr (And.intro ?_ ?_)) ?_; omega; omega)
  | (refine And.intro (Or.inl (And.intro ?_ ?_)) ?_; omega; omega)
  | (refine And.intro (And.intro ?_ (And.intro ?_ ?_)) ?_; decide; decide; decide)
  | (refine And.intro ?_ ?_; (with_reducible (show (0 : Int) < (10 : Int) ^ _)); decide)
  | (refine ⟨_, ?_, _, ?_, rfl, rfl, ?_, ?_, ?_⟩; rotate_left 2; (first | assumption | exact SqL.of (by assumption)); rfl)
  | (refine ⟨_, ?_, rfl, Or.inl ?_, ?_⟩; rotate_left 1; (first | assumption | exact SqL.of (by assumption)))
  | (refine ⟨_, ?_, rfl, Or.inr ?_, ?_⟩; rotate_left 1; assumption)))
local macro_rules | `(tactic| walk_at "goz") => `(tactic| repeat (first
  | refine ⟨_, rfl, ?_⟩
  | refine ⟨_, _, rfl, rfl, ?_⟩
  | refine ⟨_, _, rfl, ?_⟩
  | refine And.intro rfl ?_
  | refine And.intro ⟨_, rfl⟩ ?_
  | refine And.intro (Evl.sz_of (of_decide_eq_true rfl)) ?_
  | refine ite_bang ?_
  | refine Or.inr ⟨_, rfl, ?_⟩
  | refine Or.inl ⟨_, rfl, ?_⟩
  | (refine ite_yes ?_ ?_; (first | assumption | (decide +kernel)))
  | (refine ite_no ?_ ?_; (first | assumption | (decide +kernel)))
  | (refine And.intro ?_ ?_; (try dsimp only); omega)
  | (refine And.intro (And.intro ?_ ?_) ?_; omega; omega)
  | (refine And.intro (Or.inr (And.intro ?_ ?_)) ?_; omega; omega)
  | (refine And.intro (Or.inl (And.intro ?_ ?_)) ?_; omega; omega)
  | (refine And.intro (And.intro ?_ (And.intro ?_ ?_)) ?_; decide; decide; decide)
  | (refine And.intro ?_ ?_; (with_reducible (show (0 : Int) < (10 : Int) ^ _)); decide)
  | (refine ⟨_, ?_, _, ?_, rfl, rfl, ?_, ?_, ?_⟩; rotate_left 2; (first | assumption | exact SqL.of (by assumption)); (first | assumption | rfl))
  | (refine ⟨_, ?_, rfl, Or.inl ?_, ?_⟩; rotate_left 1; (first | assumption | exact SqL.of (by assumption)))
  | (refine ⟨_, ?_, rfl, Or.inr ?_, ?_⟩; rotate_left 1; assumption)))
local macro_rules | `(tactic| walk_at "gop") => `(tactic| repeat (first
  | refine ⟨_, rfl, ?_⟩
  | refine ⟨_, _, rfl, rfl, ?_⟩
  | refine ⟨_, _, rfl, ?_⟩
  | refine And.intro rfl ?_
  | refine And.intro ⟨_, rfl⟩ ?_
  | refine And.intro (Evl.sz_of (of_decide_eq_true rfl)) ?_
  | refine ite_bang ?_
  | refine Or.inr ⟨_, rfl, ?_⟩
  | refine Or.inl ⟨_, rfl, ?_⟩
  | (refine ite_yes ?_ ?_; (first | assumption | (decide +kernel)))
  | (refine ite_no ?_ ?_; (first | assumption | (decide +kernel)))
  | (refine ⟨_, ?_, ?_, ?_, ?_, rfl, ?_, ?_, ?_, ?_, ?_⟩; rotate_left 4; assumption; (first | exact PF.cL (by assumption) | exact PF.cO (by assumption) | exact PF.cB (by assumption)); (first | exact PF.nL (by assumption) _ (by decide) | exact PF.nO (by assumption) _ (by decide) | exact PF.nB (by assumption) _ (by decide)); rfl)
  | (refine And.intro ⟨_, ?_, ?_, rfl, ?_, ?_⟩ ?_; rotate_left 2; assumption; rfl)
  | (refine And.intro ?_ ?_; (try dsimp only); omega)
  | (refine And.intro (And.intro ?_ ?_) ?_; omega; omega)
  | (refine And.intro (Or.inr (And.intro ?_ ?_)) ?_; omega; omega)
  | (refine And.intro (Or.inl (And.intro ?_ ?_)) ?_; omega; omega)
  | (refine And.intro (And.intro ?_ (And.intro ?_ ?_)) ?_; decide; decide; decide)
  | (refine And.intro ?_ ?_; (with_reducible (show (0 : Int) < (10 : Int) ^ _)); decide)
  | (refine ⟨_, ?_, _, ?_, rfl, rfl, ?_, ?_, ?_⟩; rotate_left 2; (first | assumption | exact SqL.of (by assumption)); (first | assumption | rfl))
  | (refine ⟨_, ?_, rfl, Or.inl ?_, ?_⟩; rotate_left 1; (first | assumption | exact SqL.of (by assumption)))
  | (refine ⟨_, ?_, rfl, Or.inr ?_, ?_⟩; rotate_left 1; assumption)))
def top (i : Nat) : Stmt := PySem.Challenge.pw_orderflow_k09_taken_back.main.body.getD i (.Pass ⟨0, 0, 0, 0⟩)
abbrev s_worth : Stmt := top 19
abbrev s_is_item : Stmt := top 20
abbrev s_refuse_lines : Stmt := top 21
abbrev s_Line___init__ : Stmt := inClass (top 22) 0
abbrev s_Line_kept : Stmt := inClass (top 22) 1
abbrev s_Line_worth_kept : Stmt := inClass (top 22) 2
abbrev s_Line_charge : Stmt := inClass (top 22) 3
abbrev s_Line_most : Stmt := inClass (top 22) 4
abbrev s_Line_change : Stmt := inClass (top 22) 5
abbrev s_Line_take_home : Stmt := inClass (top 22) 6
abbrev s_Line_numbers : Stmt := inClass (top 22) 7
abbrev s_Order___init__ : Stmt := inClass (top 26) 0
abbrev s_Order_owed : Stmt := inClass (top 26) 1
abbrev s_Order_overpaid : Stmt := inClass (top 26) 2
abbrev s_Order_change_line : Stmt := inClass (top 26) 3
abbrev s_Order_receive : Stmt := inClass (top 26) 4
abbrev s_Book___init__ : Stmt := inClass (top 31) 0
abbrev s_Book_do : Stmt := inClass (top 31) 1
abbrev s_Book__begin : Stmt := inClass (top 31) 10
abbrev s_Book__found : Stmt := inClass (top 31) 11
abbrev s_Book__refuse : Stmt := inClass (top 31) 12
abbrev s_Book__carry_out : Stmt := inClass (top 31) 13
abbrev s_Line_put_back : Stmt := inClass (top 22) 8
abbrev s_Line_told : Stmt := inClass (top 22) 9
abbrev s_Order_take_back : Stmt := inClass (top 26) 5
abbrev s_matched : Stmt := top 24
abbrev s_Book_undo : Stmt := inClass (top 31) 2
abbrev s_Book_orders : Stmt := inClass (top 31) 3
abbrev s_Book_told : Stmt := inClass (top 31) 4
abbrev s_Book_paid : Stmt := inClass (top 31) 5
abbrev s_Book_owed : Stmt := inClass (top 31) 6
abbrev s_Book_rows : Stmt := inClass (top 31) 7
abbrev s_Book_settled : Stmt := inClass (top 31) 8
abbrev s_cell_at : Stmt := top 33
abbrev s_whole : Stmt := top 34
abbrev s_line_worth : Stmt := top 35
abbrev s_owed_by : Stmt := top 36
abbrev s_most : Stmt := top 37
abbrev s_place_by : Stmt := top 38
abbrev s_number_by : Stmt := top 39
abbrev s_item_by : Stmt := top 40
abbrev s_lines_by : Stmt := top 41
abbrev s_deed_by : Stmt := top 42
abbrev s_refusal : Stmt := top 43
abbrev s_turned : Stmt := top 44
abbrev s_step : Stmt := top 45
abbrev s_handed : Stmt := top 46
abbrev s_tried : Stmt := top 47
abbrev s_pairs_alike : Stmt := top 48
abbrev s_parts_alike : Stmt := top 49
abbrev s_deed_alike : Stmt := top 50
abbrev s_ahead_whole : Stmt := top 51
abbrev s_is_triple : Stmt := top 52
abbrev s_matched_well : Stmt := top 53
abbrev s_rows_alike : Stmt := top 54
abbrev s_lines_told : Stmt := top 55
abbrev s_stands : Stmt := top 56
abbrev s_model_of : Stmt := top 57
abbrev s_stands_by : Stmt := top 58
abbrev s_back : Stmt := top 59
abbrev s_of_one_class : Stmt := top 60
abbrev s_nothing : Stmt := top 61
abbrev s_done : Stmt := top 62
abbrev s_paid_first : Stmt := top 63
abbrev s_law : Stmt := top 64
section
variable {P : Program} {w : World} {K : PySem.W.Frag} {mg : Str → Option Value} {base : Heap} {CL CO CB : Addr}
/-! ### the program's lines -/
theorem lt1000 {n : Nat} (h : decide (n < 1000) = true := by rfl) : n < 1000 := of_decide_eq_true h
abbrev N_worth : List Str := ["pieces", "cents", "pack"]
abbrev P_worth : List Str := ["pieces", "cents", "pack"]
theorem sc_worth : FnScope N_worth P_worth (defScope s_worth) := ⟨rfl, rfl, rfl, by decide +kernel, rfl, by decide +kernel, by decide +kernel⟩
def sp_worth : Sp := fun vs H Q _ => ∃ (n c p : Int), vs = [.int n, .int c, .int p] ∧ 0 ≤ c ∧ c ≤ 1000000000 ∧ 0 < p ∧ p ≤ 1000 ∧ Q (.int (n * c / p)) H
theorem c_worth (D : DefAt K mg "worth" s_worth P_worth) : Cal P w K mg base CX0 1 "worth" P_worth sp_worth := by
  refine cal_of D sc_worth (fun vs H Q E h => ?_) (fun f cdv A outer s H vs Q E hr h => ?_)
  · obtain ⟨n, c, p, rfl, _⟩ := h
    rfl
  · obtain ⟨n, c, p, rfl, hc0, hc1, hp0, hp1, q⟩ := h
    refine ⟨_, (pss_cons (ps_if (pt_cmpR op_eq (pv 2) pe_int (nomark _))
        (pss_one (ps_ret pe_int))
        pss_nil)
      (pss_one (ps_ret (pe_op op_fdiv (pe_op op_mul (pv 0) (pv 1)) (pv 2))))), ?_⟩
    walk_at "go"
    refine ite2 (fun h => ?_) (fun h => ?_)
    · have h := of_decide_eq_true h
      injection h with h
      omega
    · walk_at "go"
      exact q
abbrev N_Line___init__ : List Str := ["self", "item", "pieces", "cents", "pack"]
abbrev P_Line___init__ : List Str := ["self", "item", "pieces", "cents", "pack"]
theorem sc_Line___init__ : FnScope N_Line___init__ P_Line___init__ (defScope s_Line___init__) := ⟨rfl, rfl, rfl, by decide +kernel, rfl, by decide +kernel, by decide +kernel⟩
def sp_Line_init (CL : Addr) : Sp := fun vs H Q _ => ∃ (x dx : Addr) (t : LineT), vs = [.ref x, .str t.item, .int t.pieces, .int t.cents, .int t.pack] ∧ H x = some (.ins CL dx []) ∧ Q .non (upd H x (.ins CL dx (lnF t.new)))
theorem mk_Line (Z : PF K CL CO CB) (g : mg "Line" = some (.ref CL)) (D : IAt K CL "Line.__init__" s_Line___init__ P_Line___init__) : MkC P w K mg base CX0 1 CL "Line" P_Line___init__ (sp_Line_init CL) := by
  refine mkc_of g D sc_Line___init__ (fun vs H Q E h => ?_) (fun f cdv A outer s H vs Q E hr h => ?_)
  · obtain ⟨x, dx, t, rfl, _⟩ := h
    rfl
  · obtain ⟨x, dx, t, rfl, h0, q⟩ := h
    refine ⟨_, (pss_cons (ps_fld (pv 0) (pv 1) rfl)
      (pss_cons (ps_fld (pv 0) (pv 2) rfl)
      (pss_cons (ps_fld (pv 0) (pv 3) rfl)
      (pss_cons (ps_fld (pv 0) (pv 4) rfl)
      (pss_cons (ps_fld (pv 0) pe_int rfl)
      (pss_cons (ps_fld (pv 0) pe_int rfl)
      (pss_cons (ps_fld (pv 0) pe_int rfl)
      (pss_one (ps_fld (pv 0) pe_int rfl))))))))), ?_⟩
    have go : ∀ (fs : List (Str × V)), upd H x (.ins CL dx fs) x = some (.ins CL dx fs) := fun _ => upd_same
    walk_at "gop"
    refine ⟨x, CL, dx, _, rfl, h0, Z.cL, Z.nL _ (by decide), lt1000, ?_⟩
    iterate 7
      walk_at "gop"
      refine ⟨x, CL, dx, _, rfl, upd_same, Z.cL, Z.nL _ (by decide), lt1000, ?_⟩
      rw [upd_upd]
    exact q
/-- a line at x -/
def sp_ln (CL : Addr) (g : Ln → Int) : Sp := fun vs H Q _ => ∃ (x dx : Addr) (l : Ln), vs = [.ref x] ∧ H x = some (.ins CL dx (lnF l)) ∧ l.Ok ∧ Q (.int (g l)) H
abbrev N_Line_kept : List Str := ["self"]
abbrev P_Line_kept : List Str := ["self"]
theorem sc_Line_kept : FnScope N_Line_kept P_Line_kept (defScope s_Line_kept) := ⟨rfl, rfl, rfl, by decide +kernel, rfl, by decide +kernel, by decide +kernel⟩
theorem m_Line_kept (Z : PF K CL CO CB) (D : MAt K CL "kept" "Line.kept" s_Line_kept P_Line_kept) : MCal P w K mg base CX0 1 CL "kept" P_Line_kept (sp_ln CL fun l => l.sent - l.home) := by
  refine mcal_of Z.cL D sc_Line_kept (fun vs H Q E h => ?_) (fun f cdv A outer s H vs Q E hr h => ?_)
  · obtain ⟨x, dx, l, rfl, _⟩ := h
    rfl
  · obtain ⟨x, dx, l, rfl, h0, ok, q⟩ := h
    refine ⟨_, (pss_one (ps_ret (pe_op op_sub (pe_fld (pv 0) rfl) (pe_fld (pv 0) rfl)))), ?_⟩
    walk_at "gop"
    exact q
abbrev N_Line_worth_kept : List Str := ["self"]
abbrev P_Line_worth_kept : List Str := ["self"]
theorem sc_Line_worth_kept : FnScope N_Line_worth_kept P_Line_worth_kept (defScope s_Line_worth_kept) := ⟨rfl, rfl, rfl, by decide +kernel, rfl, by decide +kernel, by decide +kernel⟩
theorem m_Line_worth_kept (Z : PF K CL CO CB) (c_worth : Cal P w K mg base CX0 1 "worth" P_worth sp_worth) (m_Line_kept : MCal P w K mg base CX0 1 CL "kept" P_Line_kept (sp_ln CL fun l => l.sent - l.home)) (D : MAt K CL "worth_kept" "Line.worth_kept" s_Line_worth_kept P_Line_worth_kept) :
    MCal P w K mg base CX0 2 CL "worth_kept" P_Line_worth_kept (sp_ln CL Ln.worth) := by
  refine mcal_of Z.cL D sc_Line_worth_kept (fun vs H Q E h => ?_) (fun f cdv A outer s H vs Q E hr h => ?_)
  · obtain ⟨x, dx, l, rfl, _⟩ := h
    rfl
  · obtain ⟨x, dx, l, rfl, h0, ok, q⟩ := h
    have o0 := ok.c0
    have o1 := ok.c1
    have o2 := ok.p0
    have o3 := ok.p1
    refine ⟨_, (pss_one (ps_ret (pe_cal c_worth (hr.mono (by decide)) pass0 (pa_cons (pe_m0 m_Line_kept (pv 0) (hr.mono (by decide)) pass0) (pa_cons (pe_fld (pv 0) rfl) (pa_cons (pe_fld (pv 0) rfl) pa_nil)))))), ?_⟩
    walk_at "gop"
    refine ⟨x, dx, l, rfl, h0, ok, ?_⟩
    walk_at "gop"
    exact ⟨_, _, _, rfl, o0, o1, by omega, o3, q⟩
abbrev N_Line_charge : List Str := ["self"]
abbrev P_Line_charge : List Str := ["self"]
theorem sc_Line_charge : FnScope N_Line_charge P_Line_charge (defScope s_Line_charge) := ⟨rfl, rfl, rfl, by decide +kernel, rfl, by decide +kernel, by decide +kernel⟩
theorem m_Line_charge (Z : PF K CL CO CB) (m_Line_worth_kept : MCal P w K mg base CX0 2 CL "worth_kept" P_Line_worth_kept (sp_ln CL Ln.worth)) (D : MAt K CL "charge" "Line.charge" s_Line_charge P_Line_charge) :
    MCal P w K mg base CX0 3 CL "charge" P_Line_charge (sp_ln CL Ln.charge) := by
  refine mcal_of Z.cL D sc_Line_charge (fun vs H Q E h => ?_) (fun f cdv A outer s H vs Q E hr h => ?_)
  · obtain ⟨x, dx, l, rfl, _⟩ := h
    rfl
  · obtain ⟨x, dx, l, rfl, h0, ok, q⟩ := h
    refine ⟨_, (pss_one (ps_ret (pe_op op_sub (pe_m0 m_Line_worth_kept (pv 0) (hr.mono (by decide)) pass0) (pe_fld (pv 0) rfl)))), ?_⟩
    walk_at "gop"
    refine ⟨x, dx, l, rfl, h0, ok, ?_⟩
    walk_at "gop"
    exact q
abbrev N_Line_most : List Str := ["self", "word"]
abbrev P_Line_most : List Str := ["self", "word"]
theorem sc_Line_most : FnScope N_Line_most P_Line_most (defScope s_Line_most) := ⟨rfl, rfl, rfl, by decide +kernel, rfl, by decide +kernel, by decide +kernel⟩
def sp_Line_most (CL : Addr) : Sp := fun vs H Q _ => ∃ (x dx : Addr) (l : Ln) (z : Str), vs = [.ref x, .str z] ∧ H x = some (.ins CL dx (lnF l)) ∧ l.Ok ∧ Q (.int (mostL z l)) H
theorem m_Line_most (Z : PF K CL CO CB) (m_Line_kept : MCal P w K mg base CX0 1 CL "kept" P_Line_kept (sp_ln CL fun l => l.sent - l.home)) (m_Line_charge : MCal P w K mg base CX0 3 CL "charge" P_Line_charge (sp_ln CL Ln.charge)) (D : MAt K CL "most" "Line.most" s_Line_most P_Line_most) :
    MCal P w K mg base CX0 4 CL "most" P_Line_most (sp_Line_most CL) := by
  refine mcal_of Z.cL D sc_Line_most (fun vs H Q E h => ?_) (fun f cdv A outer s H vs Q E hr h => ?_)
  · obtain ⟨x, dx, l, z, rfl, _⟩ := h
    rfl
  · obtain ⟨x, dx, l, z, rfl, h0, ok, q⟩ := h
    refine ⟨_, (pss_cons (ps_if (pt_cmpR op_eq (pv 1) pe_str (nomark _))
        (pss_one (ps_ret (pe_op op_add (pe_op op_sub (pe_fld (pv 0) rfl) (pe_fld (pv 0) rfl)) (pe_fld (pv 0) rfl))))
        pss_nil)
      (pss_cons (ps_if (pt_cmpR op_eq (pv 1) pe_str (nomark _))
        (pss_one (ps_ret (pe_m0 m_Line_charge (pv 0) (hr.mono (by decide)) pass0)))
        pss_nil)
      (pss_one (ps_ret (pe_m0 m_Line_kept (pv 0) (hr.mono (by decide)) pass0))))), ?_⟩
    unfold mostL at q
    walk_at "gop"
    refine ite2 (fun h => ?_) (fun h => ?_)
    · rw [if_pos (str_yes h)] at q
      walk_at "gop"
      exact q
    rw [if_neg (str_not h)] at q
    walk_at "gop"
    refine ite2 (fun h => ?_) (fun h => ?_)
    · rw [if_pos (str_yes h)] at q
      walk_at "gop"
      exact ⟨x, dx, l, rfl, h0, ok, q⟩
    rw [if_neg (str_not h)] at q
    walk_at "gop"
    exact ⟨x, dx, l, rfl, h0, ok, q⟩
abbrev N_Line_take_home : List Str := ["self", "pieces"]
abbrev P_Line_take_home : List Str := ["self", "pieces"]
theorem sc_Line_take_home : FnScope N_Line_take_home P_Line_take_home (defScope s_Line_take_home) := ⟨rfl, rfl, rfl, by decide +kernel, rfl, by decide +kernel, by decide +kernel⟩
def sp_Line_take_home (CL : Addr) : Sp := fun vs H Q _ => ∃ (x dx : Addr) (l : Ln) (n : Int), vs = [.ref x, .int n] ∧ H x = some (.ins CL dx (lnF l)) ∧ l.Ok ∧
  Q .non (upd H x (.ins CL dx (lnF { l with home := l.home + n, credited := if (⟨l.item, l.pieces, l.cents, l.pack, l.sent, l.home + n, l.again, l.credited⟩ : Ln).worth < l.credited then (⟨l.item, l.pieces, l.cents, l.pack, l.sent, l.home + n, l.again, l.credited⟩ : Ln).worth else l.credited })))
theorem m_Line_take_home (Z : PF K CL CO CB) (T : Blt mg) (m_Line_worth_kept : MCal P w K mg base CX0 2 CL "worth_kept" P_Line_worth_kept (sp_ln CL Ln.worth)) (D : MAt K CL "take_home" "Line.take_home" s_Line_take_home P_Line_take_home) :
    MCal P w K mg base CX0 3 CL "take_home" P_Line_take_home (sp_Line_take_home CL) := by
  refine mcal_of Z.cL D sc_Line_take_home (fun vs H Q E h => ?_) (fun f cdv A outer s H vs Q E hr h => ?_)
  · obtain ⟨x, dx, l, n, rfl, _⟩ := h
    rfl
  · obtain ⟨x, dx, l, n, rfl, h0, ok, q⟩ := h
    refine ⟨_, (pss_cons (ps_fldaug (pv 0) (pv 1) in_add)
      (pss_one (ps_fld (pv 0) (pe_callB (call_min2 rfl) (by rfl) T.m_min (by decide +kernel) (pa_cons (pe_fld (pv 0) rfl) (pa_cons (pe_m0 m_Line_worth_kept (pv 0) (hr.mono (by decide)) pass0) pa_nil))) rfl))), ?_⟩
    walk_at "gop"
    refine ⟨dx, _, h0, lt1000, ?_⟩
    rw [show putF "home" (.int (l.home + n)) (lnF l) = lnF ⟨l.item, l.pieces, l.cents, l.pack, l.sent, l.home + n, l.again, l.credited⟩ from rfl]
    have h1 : upd H x (.ins CL dx (lnF ⟨l.item, l.pieces, l.cents, l.pack, l.sent, l.home + n, l.again, l.credited⟩)) x = _ := upd_same
    walk_at "gop"
    refine ⟨x, dx, _, rfl, upd_same, ⟨ok.c0, ok.c1, ok.p0, ok.p1, ok.it⟩, ?_⟩
    walk_at "gop"
    refine ⟨x, CL, dx, _, rfl, upd_same, Z.cL, Z.nL _ (by decide), lt1000, ?_⟩
    rw [upd_upd]
    exact q
abbrev N_Line_change : List Str := ["self", "word", "amount"]
abbrev P_Line_change : List Str := ["self", "word", "amount"]
theorem sc_Line_change : FnScope N_Line_change P_Line_change (defScope s_Line_change) := ⟨rfl, rfl, rfl, by decide +kernel, rfl, by decide +kernel, by decide +kernel⟩
def sp_Line_change (CL : Addr) : Sp := fun vs H Q _ => ∃ (x dx : Addr) (l : Ln) (z : Str) (n : Int), vs = [.ref x, .str z, .int n] ∧ H x = some (.ins CL dx (lnF l)) ∧ l.Ok ∧ GoodsW z ∧ Q .non (upd H x (.ins CL dx (lnF (turnL z n l))))
theorem m_Line_change (Z : PF K CL CO CB) (m_Line_take_home : MCal P w K mg base CX0 3 CL "take_home" P_Line_take_home (sp_Line_take_home CL)) (D : MAt K CL "change" "Line.change" s_Line_change P_Line_change) :
    MCal P w K mg base CX0 4 CL "change" P_Line_change (sp_Line_change CL) := by
  refine mcal_of Z.cL D sc_Line_change (fun vs H Q E h => ?_) (fun f cdv A outer s H vs Q E hr h => ?_)
  · obtain ⟨x, dx, l, z, n, rfl, _⟩ := h
    rfl
  · obtain ⟨x, dx, l, z, n, rfl, h0, ok, gw, q⟩ := h
    refine ⟨_, (pss_one (ps_if (pt_cmpR op_eq (pv 1) pe_str (nomark _))
        (pss_one (ps_fldaug (pv 0) (pv 2) in_add))
        (pss_one (ps_if (pt_cmpR op_eq (pv 1) pe_str (nomark _))
          (pss_one (ps_fldaug (pv 0) (pv 2) in_add))
          (pss_cons (ps_expr (pe_m m_Line_take_home (pv 0) (hr.mono (by decide)) pass0 (pa_cons (pv 2) pa_nil)))
          (pss_one (ps_if (pt_cmpR op_eq (pv 1) pe_str (nomark _))
            (pss_one (ps_fldaug (pv 0) (pv 2) in_add))
            pss_nil))))))), ?_⟩
    obtain ⟨it, pc, ce, pa, se, hm, ag, cr⟩ := l
    rcases gw with rfl | rfl | rfl | rfl
    · walk_at "gop"
      refine ⟨dx, _, h0, lt1000, ?_⟩
      exact q
    · walk_at "gop"
      refine ⟨x, dx, _, n, rfl, h0, ok, ?_⟩
      have e := turnL_home (w := "back") (n := n) (it := it) (pc := pc) (ce := ce) (pa := pa) (se := se) (hm := hm) (ag := ag) (cr := cr) (a2 := ag) (by decide +kernel) (by decide +kernel) (by rw [if_neg (by decide +kernel)]; omega) rfl
      walk_at "gop"
      rw [← e] at q
      exact q
    · walk_at "gop"
      refine ⟨x, dx, _, n, rfl, h0, ok, ?_⟩
      have e := turnL_home (w := "swap") (n := n) (it := it) (pc := pc) (ce := ce) (pa := pa) (se := se) (hm := hm) (ag := ag) (cr := cr) (a2 := ag + n) (by decide +kernel) (by decide +kernel) (by rw [if_pos rfl]) rfl
      rw [← e] at q
      generalize hcr : (if (⟨it, pc, ce, pa, se, hm + n, ag, cr⟩ : Ln).worth < cr then (⟨it, pc, ce, pa, se, hm + n, ag, cr⟩ : Ln).worth else cr) = cr2 at *
      have h1 : upd H x (.ins CL dx (lnF ⟨it, pc, ce, pa, se, hm + n, ag, cr2⟩)) x = some (.ins CL dx (lnF ⟨it, pc, ce, pa, se, hm + n, ag, cr2⟩)) := upd_same
      walk_at "gop"
      refine ⟨dx, _, upd_same, lt1000, ?_⟩
      rw [upd_upd]
      rw [← hcr]
      exact q
    · walk_at "gop"
      refine ⟨dx, _, h0, lt1000, ?_⟩
      exact q
abbrev N_Line_numbers : List Str := ["self"]
abbrev P_Line_numbers : List Str := ["self"]
theorem sc_Line_numbers : FnScope N_Line_numbers P_Line_numbers (defScope s_Line_numbers) := ⟨rfl, rfl, rfl, by decide +kernel, rfl, by decide +kernel, by decide +kernel⟩
def sp_Line_numbers (CL : Addr) : Sp := fun vs H Q _ => ∃ (x dx : Addr) (l : Ln), vs = [.ref x] ∧ H x = some (.ins CL dx (lnF l)) ∧ ∀ t, H t = none → Q (.ref t) (upd H t (.tup [.int l.sent, .int l.home, .int l.again, .int l.credited]))
theorem m_Line_numbers (Z : PF K CL CO CB) (D : MAt K CL "numbers" "Line.numbers" s_Line_numbers P_Line_numbers) : MCal P w K mg base CX0 1 CL "numbers" P_Line_numbers (sp_Line_numbers CL) := by
  refine mcal_of Z.cL D sc_Line_numbers (fun vs H Q E h => ?_) (fun f cdv A outer s H vs Q E hr h => ?_)
  · obtain ⟨x, dx, l, rfl, _⟩ := h
    rfl
  · obtain ⟨x, dx, l, rfl, h0, q⟩ := h
    refine ⟨_, (pss_one (ps_ret (pe_tup (pa_cons (pe_fld (pv 0) rfl) (pa_cons (pe_fld (pv 0) rfl) (pa_cons (pe_fld (pv 0) rfl) (pa_cons (pe_fld (pv 0) rfl) pa_nil))))))), ?_⟩
    walk_at "gop"
    exact q
end
section
variable {P : Program} {w : World} {K : PySem.W.Frag} {mg : Str → Option Value} {base : Heap} {CL CO CB : Addr}
/-! ### the program's refusals of an order; its orders -/
theorem bfalse {b : Bool} (h : ¬ b = true) : b = false := by
  cases b
  · rfl
  · exact absurd rfl h
abbrev N_is_item : List Str := ["text", "sign"]
abbrev P_is_item : List Str := ["text"]
theorem sc_is_item : FnScope N_is_item P_is_item (defScope s_is_item) := ⟨rfl, rfl, rfl, by decide +kernel, rfl, by decide +kernel, by decide +kernel⟩
def sp_is_item : Sp := fun vs H Q _ => ∃ z : Str, vs = [.str z] ∧ z.length ≤ 1000 ∧ ∀ H', Same H H' → Q (.bl (itemOk z)) H'
theorem c_is_item (T : Blt mg) (T2 : Bl2 mg) (CS : Consts mg) (D : DefAt K mg "is_item" s_is_item P_is_item) : Cal P w K mg base CX0 1 "is_item" P_is_item sp_is_item := by
  refine cal_of D sc_is_item (fun vs H Q E h => ?_) (fun f cdv A outer s H vs Q E hr h => ?_)
  · obtain ⟨z, rfl, _⟩ := h
    rfl
  · obtain ⟨z, rfl, hz, q⟩ := h
    refine ⟨_, (pss_one (ps_ret (pe_and (pe_chain op_le op_le pe_int (pe_callB call_len_str (by rfl) T.m_len PySem.boot_len (pa_cons (pv 0) pa_nil)) (pe_gint CS.k_MOST_LETTERS)) (pe_one (pe_callB (kc_all K rfl) (by rfl) T2.m_all (by decide +kernel) (pa_cons (pe_lc (own := [("sign", 1)]) (g := gName 1) (tt := tYes) rfl sc_is_item.nd (pi_str (pv 0)) (blkOk_by (N := N_is_item) (sc := defScope s_is_item) (by decide +kernel)) (fun _ _ _ _ _ => pg_name (i := 1) sc_is_item.nd rfl (Or.inl rfl)) (fun _ _ _ _ _ => pts_nil) (fun _ _ _ _ _ => (pe_chain op_le_str op_le_str pe_str (pv 1) pe_str))) pa_nil)))))), ?_⟩
    have hz2 : z.length ≤ sizeLine := Evl.sz_of (by omega)
    walk_at "gop"
    have e0 : itemOk z = (decide ((1 : Int) ≤ (z.length : Nat)) && (decide (((z.length : Nat) : Int) ≤ 12) && z.cps.toList.all fun c => decide (97 ≤ c) && decide (c ≤ 122))) := by
      unfold itemOk
      rw [show decide ((1 : Int) ≤ (z.length : Nat)) = decide (1 ≤ z.length) from decide_eq_decide.mpr (by omega), show decide (((z.length : Nat) : Int) ≤ 12) = decide (z.length ≤ 12) from decide_eq_decide.mpr (by omega), Bool.and_assoc]
    rw [e0] at q
    refine ite2 (fun h => ?_) (fun h => ?_)
    rotate_left
    · rw [bfalse h] at q
      walk_at "gop"
      exact q H (Same.refl _)
    rw [h] at q
    walk_at "gop"
    refine ite2 (fun h => ?_) (fun h => ?_)
    rotate_left
    · rw [bfalse h] at q
      exact q H (Same.refl _)
    rw [h] at q
    walk_at "gop"
    intro D1 h1
    refine lcS_bool (fun c => decide (97 ≤ c) && decide (c ≤ 122)) (by omega) h1 (fun k H2 R s2 r => ?_) (fun H2 s2 e2 => ?_)
    · walk_at "gop"
      refine ite2 (fun h => ?_) (fun h => ?_)
      · have h : k < 97 := lt_sign.mp (of_decide_eq_true h)
        rw [decide_eq_false (show ¬ 97 ≤ k by omega)] at r
        exact r
      · have h : ¬ k < 97 := fun z => h (decide_eq_true (lt_sign.mpr z))
        rw [decide_eq_true (show 97 ≤ k by omega), Bool.true_and] at r
        walk_at "gop"
        rw [show (("z" : Str)).cps.toList = [122] from rfl, show ((⟨#[k]⟩ : Str)).cps.toList = [k] from rfl, le_sign]
        exact r
    walk_at "gop"
    refine ⟨D1, _, rfl, SqL.of e2, ?_⟩
    rw [List.all_map]
    exact q H2 s2
theorem firstBad_cons {t : LineT} {ts : List LineT} : firstBad (t :: ts) = (if itemOk t.item = false then "NoItem" else if numsOk t = false then "NoNumber" else firstBad ts : Str) := rfl
def badLines (ls : List LineT) : Str := if ls.length = 0 ∨ 20 < ls.length then "NoLines" else firstBad ls
abbrev N_refuse_lines : List Str := ["lines", "item", "pieces", "cents", "pack"]
abbrev P_refuse_lines : List Str := ["lines"]
theorem sc_refuse_lines : FnScope N_refuse_lines P_refuse_lines (defScope s_refuse_lines) := ⟨rfl, rfl, rfl, by decide +kernel, rfl, by decide +kernel, by decide +kernel⟩
def sp_refuse_lines (K : PySem.W.Frag) (cl : Str → Addr) : Sp := fun vs H Q E => ∃ (a : Addr) (xs : List V) (ls : List LineT), vs = [.ref a] ∧ SqL K H a xs ∧ DpAll K H xs (ls.map lineD) ∧ ls.length ≤ 1000 ∧ (∀ t ∈ ls, t.item.length ≤ 1000) ∧
  (badLines ls = "" → ∀ H', Same H H' → Q .non H') ∧ (badLines ls ≠ "" → ∀ H', Same H H' → E (.ref (cl (badLines ls))) none H')
theorem line_dp {H : Hp} {v : V} {t : LineT} (h : Dp K H v (lineD t)) : ∃ p, v = .ref p ∧ SqT K H p [.str t.item, .int t.pieces, .int t.cents, .int t.pack] := by
  obtain ⟨p, x, y, z, u, rfl, s, h1, h2, h3, h4⟩ := tup4 h
  rw [dp_str h1, dp_int h2, dp_int h3, dp_int h4] at s
  exact ⟨p, rfl, s⟩
theorem c_refuse_lines {cl : Str → Addr} (T : Blt mg) (CS : Consts mg) (ER : ErrMk K mg cl) (c_is_item : Cal P w K mg base CX0 1 "is_item" P_is_item sp_is_item) (D : DefAt K mg "refuse_lines" s_refuse_lines P_refuse_lines) :
    Cal P w K mg base (L2.CX P w) 2 "refuse_lines" P_refuse_lines (sp_refuse_lines K cl) := by
  refine cal_ofX D sc_refuse_lines (fun vs H Q E h => ?_) (fun f cdv A outer s H vs Q E hr h => ?_)
  · obtain ⟨a, xs, ls, rfl, _⟩ := h
    rfl
  · obtain ⟨a, xs, ls, rfl, hS, dx, lz, iz, q, qe⟩ := h
    refine ⟨_, (pss_cons (ps_if (pt_not (pt_chain op_le op_le pe_int (pe_callB (kc_len K) (by rfl) T.m_len PySem.boot_len (pa_cons (pv 0) pa_nil)) (pe_gint CS.k_MOST_LINES)))
        (pss_one (ps_raise rfl (takes_of rfl rfl rfl rfl) (ER.pmk "NoLines" (by decide))))
        pss_nil)
      (pss_one (ps_for (passes_of rfl) rfl (ki_list K (pv 0)) (pg_tup rfl (pgs_cons (pg_name (i := 1) sc_refuse_lines.nd rfl (Or.inl rfl)) (pgs_cons (pg_name (i := 2) sc_refuse_lines.nd rfl (Or.inl rfl)) (pgs_cons (pg_name (i := 3) sc_refuse_lines.nd rfl (Or.inl rfl)) (pgs_cons (pg_name (i := 4) sc_refuse_lines.nd rfl (Or.inl rfl)) pgs_nil)))))
        (pss_cons (ps_if (pt_not (pt_val (pe_cal c_is_item (hr.mono (by decide)) pass0 (pa_cons (pv 1) pa_nil))))
          (pss_one (ps_raise rfl (takes_of rfl rfl rfl rfl) (ER.pmk "NoItem" (by decide))))
          pss_nil)
        (pss_cons (ps_if (pt_not (pt_chain op_le op_le pe_int (pv 2) (pe_gint CS.k_MOST_PIECES)))
          (pss_one (ps_raise rfl (takes_of rfl rfl rfl rfl) (ER.pmk "NoNumber" (by decide))))
          pss_nil)
        (pss_cons (ps_if (pt_not (pt_chain op_le op_le pe_int (pv 3) (pe_gint CS.k_MOST_CENTS)))
          (pss_one (ps_raise rfl (takes_of rfl rfl rfl rfl) (ER.pmk "NoNumber" (by decide))))
          pss_nil)
        (pss_one (ps_if (pt_not (pt_chain op_le op_le pe_int (pv 4) (pe_gint CS.k_MOST_PACK)))
          (pss_one (ps_raise rfl (takes_of rfl rfl rfl rfl) (ER.pmk "NoNumber" (by decide))))
          pss_nil)))))))), ?_⟩
    have hl := dx.length
    rw [List.length_map] at hl
    have bad : badLines ls = "NoLines" → E (.ref (cl "NoLines")) none H := fun e => by
      rw [e] at qe
      exact qe (by decide +kernel) H (Same.refl _)
    walk_at "gop"
    refine ite2 (fun h1 => ?_) (fun h1 => ?_)
    rotate_left
    · walk_at "gop"
      refine bad ?_
      have : ls.length = 0 := by
        have := of_decide_eq_false (bfalse h1)
        omega
      unfold badLines
      rw [if_pos (.inl this)]
    walk_at "gop"
    have h1 := of_decide_eq_true h1
    refine ite2 (fun h2 => ?_) (fun h2 => ?_)
    rotate_left
    · walk_at "gop"
      refine bad ?_
      have : 20 < ls.length := by
        have := of_decide_eq_false (bfalse h2)
        omega
      unfold badLines
      rw [if_pos (.inr this)]
    have h2 := of_decide_eq_true h2
    have eb : badLines ls = firstBad ls := by
      unfold badLines
      rw [if_neg (by omega)]
    rw [eb] at q qe
    walk_at "gop"
    refine ⟨⟨_, hS⟩, ?_⟩
    refine for_list (K := K) (a := a) (xs := xs) (fun i σ H' => ∃ v1 v2 v3 v4, σ = [some (.ref a), v1, v2, v3, v4] ∧ Same H H' ∧ firstBad ls = firstBad (ls.drop i)) ⟨none, none, none, none, rfl, Same.refl _, rfl⟩ (fun i σ H' _ ⟨_, _, _, _, _, s1, _⟩ => same_l s1 hS) ?_ ?_
    rotate_left
    · rintro σ H' ⟨v1, v2, v3, v4, rfl, s1, e⟩
      rw [hl, List.drop_length] at e
      exact q e H' s1
    rintro i x σ H' hx ⟨v1, v2, v3, v4, rfl, s1, e⟩
    have hi : i < ls.length := by rw [← hl]; exact (List.getElem?_eq_some_iff.mp hx).1
    obtain ⟨d, hd, dd⟩ := (dx.same s1).got hx
    rw [List.getElem?_map, List.getElem?_eq_getElem hi] at hd
    have hd := Option.some.inj hd
    subst hd
    obtain ⟨p, rfl, hp⟩ := line_dp dd
    have it := iz _ (List.getElem_mem hi)
    rw [List.drop_eq_getElem_cons hi] at e
    generalize ls[i] = t at *
    rw [firstBad_cons] at e
    refine ⟨p, _, rfl, hp, rfl, _, _, rfl, _, _, rfl, _, _, rfl, _, _, rfl, rfl, ?_⟩
    walk_at "gop"
    intro H2 s2
    have s3 := s1.trans s2
    walk_at "gop"
    refine ite2 (fun h3 => ?_) (fun h3 => ?_)
    rotate_left
    · rw [if_pos (bfalse h3)] at e
      rw [e] at qe
      walk_at "gop"
      exact qe (by decide +kernel) H2 s3
    rw [if_neg (by rw [h3]; exact fun z => nomatch z)] at e
    have num : numsOk t = false → E (.ref (cl "NoNumber")) none H2 := fun z => by
      rw [if_pos z] at e
      rw [e] at qe
      exact qe (by decide +kernel) H2 s3
    unfold numsOk at num e
    walk_at "gop"
    refine ite2 (fun g1 => ?_) (fun g1 => ?_)
    rotate_left
    · walk_at "gop"
      exact num (by rw [bfalse g1]; rfl)
    walk_at "gop"
    refine ite2 (fun g2 => ?_) (fun g2 => ?_)
    rotate_left
    · walk_at "gop"
      exact num (by rw [bfalse g2, Bool.and_false]; rfl)
    walk_at "gop"
    refine ite2 (fun g3 => ?_) (fun g3 => ?_)
    rotate_left
    · walk_at "gop"
      exact num (by rw [bfalse g3, Bool.and_false]; rfl)
    walk_at "gop"
    refine ite2 (fun g4 => ?_) (fun g4 => ?_)
    rotate_left
    · walk_at "gop"
      exact num (by rw [bfalse g4, Bool.and_false]; rfl)
    walk_at "gop"
    refine ite2 (fun g5 => ?_) (fun g5 => ?_)
    rotate_left
    · walk_at "gop"
      exact num (by rw [bfalse g5, Bool.and_false]; rfl)
    walk_at "gop"
    refine ite2 (fun g6 => ?_) (fun g6 => ?_)
    rotate_left
    · walk_at "gop"
      exact num (by rw [bfalse g6, Bool.and_false])
    walk_at "gop"
    refine ⟨_, _, _, _, rfl, s3, ?_⟩
    rw [e, g1, g2, g3, g4, g5, g6]
    rfl
end
section
variable {P : Program} {w : World} {K : PySem.W.Frag} {mg : Str → Option Value} {base : Heap} {CL CO CB : Addr}
abbrev N_Order___init__ : List Str := ["self", "lines", "cents", "item", "pack", "pieces"]
abbrev P_Order___init__ : List Str := ["self", "lines"]
theorem sc_Order___init__ : FnScope N_Order___init__ P_Order___init__ (defScope s_Order___init__) := ⟨rfl, rfl, rfl, by decide +kernel, rfl, by decide +kernel, by decide +kernel⟩
/-- at the turns of the lines' making -/
def LinesAt (CL D : Addr) (H1 : Hp) (ls : List LineT) (i : Nat) (H : Hp) : Prop := ∃ lns : List Addr, Same H1 H ∧ H D = some (.lst (lns.map V.ref)) ∧ lns.length = i ∧ lns.Nodup ∧ (∀ y ∈ lns, H1 y = none ∧ y ≠ D) ∧ ∀ (j : Nat) y t, lns[j]? = some y → ls[j]? = some t → ∃ dx, H y = some (.ins CL dx (lnF t.new))
def sp_Order_init (K : PySem.W.Frag) (CL CO : Addr) : Sp := fun vs H Q _ => ∃ (a dx p : Addr) (xs : List V) (ls : List LineT), vs = [.ref a, .ref p] ∧ H a = some (.ins CO dx []) ∧ SqL K H p xs ∧ DpAll K H xs (ls.map lineD) ∧ ls.length ≤ 1000 ∧
  ∀ H' la ch ah lns, (∀ x u, x ≠ a → H x = some u → H' x = some u) → (∀ x, Foot ⟨a, dx, la, ch, ah, 0, lns⟩ x → x = a ∨ H x = none) → (∀ q, OdAt2 K CL CO H' ⟨a, dx, la, ch, ah, q, lns⟩ ⟨ls.map LineT.new, 0, []⟩ []) → Q .non H'
theorem mk_Order (Z : PF K CL CO CB) (g : mg "Order" = some (.ref CO)) (mk_Line : MkC P w K mg base CX0 1 CL "Line" P_Line___init__ (sp_Line_init CL)) (D : IAt K CO "Order.__init__" s_Order___init__ P_Order___init__) :
    MkC P w K mg base CX0 3 CO "Order" P_Order___init__ (sp_Order_init K CL CO) := by
  refine mkc_of g D sc_Order___init__ (fun vs H Q E h => ?_) (fun f cdv A outer s H vs Q E hr h => ?_)
  · obtain ⟨a, dx, p, xs, ls, rfl, _⟩ := h
    rfl
  · obtain ⟨a, dx, p, xs, ls, rfl, h0, hS, dxs, lz, q⟩ := h
    refine ⟨_, (pss_cons (ps_fld (pv 0) (pe_lc (own := [("item", 3), ("pieces", 5), ("cents", 2), ("pack", 4)]) (g := gTup K 4 (gCons (gName 3) (gCons (gName 5) (gCons (gName 2) (gCons (gName 4) gNil))))) (tt := tYes) rfl sc_Order___init__.nd (ki_list K (pv 1)) (blkOk_by (N := N_Order___init__) (sc := defScope s_Order___init__) (by decide +kernel)) (fun _ _ _ _ _ => pg_tup rfl (pgs_cons (pg_name (i := 3) sc_Order___init__.nd rfl (Or.inl rfl)) (pgs_cons (pg_name (i := 5) sc_Order___init__.nd rfl (Or.inl rfl)) (pgs_cons (pg_name (i := 2) sc_Order___init__.nd rfl (Or.inl rfl)) (pgs_cons (pg_name (i := 4) sc_Order___init__.nd rfl (Or.inl rfl)) pgs_nil))))) (fun _ _ _ _ _ => pts_nil) (fun _ _ _ _ _ => (pe_mkC mk_Line (hr.mono (by decide)) pass0 (pa_cons (pv 3) (pa_cons (pv 5) (pa_cons (pv 2) (pa_cons (pv 4) pa_nil))))))) rfl)
      (pss_cons (ps_fld (pv 0) pe_int rfl)
      (pss_cons (ps_fld (pv 0) (pe_lst pa_nil) rfl)
      (pss_one (ps_fld (pv 0) (pe_lst pa_nil) rfl))))), ?_⟩
    have hl := dxs.length
    rw [List.length_map] at hl
    walk_at "gop"
    refine ⟨⟨_, hS⟩, fun D hD => ?_⟩
    refine lc_list (K := K) (a := p) (xs := xs) (LinesAt CL D H ls) ⟨[], same_new hD, upd_same, rfl, .nil, (fun _ z => by cases z), (fun _ _ _ z => by cases z)⟩ (fun i H1 _ ⟨_, s1, _⟩ => same_l s1 hS) ?_ ?_
    · rintro i x H1 hx ⟨lns, s1, hd1, ln1, nd1, nw1, at1⟩
      have hi : i < ls.length := by rw [← hl]; exact (List.getElem?_eq_some_iff.mp hx).1
      obtain ⟨d, hd, dd⟩ := (dxs.same s1).got hx
      have et : ls[i]? = some ls[i] := List.getElem?_eq_getElem hi
      rw [List.getElem?_map, et] at hd
      have hd := Option.some.inj hd
      subst hd
      obtain ⟨p1, rfl, hp⟩ := line_dp dd
      generalize ls[i] = t at *
      refine ⟨p1, _, rfl, hp, rfl, _, _, rfl, _, _, rfl, _, _, rfl, _, _, rfl, rfl, rfl, ?_⟩
      walk_at "gop"
      intro x1 d1 hx1 hd2 ne
      have s2 : Same H1 (upd (upd H1 d1 (.own x1)) x1 (.ins CL d1 [])) := (same_new hd2).trans (same_new (by rw [upd_ne ne.symm]; exact hx1))
      have s3 : Same H1 (upd (upd H1 d1 (.own x1)) x1 (.ins CL d1 (lnF t.new))) := (same_new hd2).trans (same_new (by rw [upd_ne ne.symm]; exact hx1))
      refine ⟨x1, d1, t, rfl, upd_same, ?_⟩
      rw [upd_upd]
      refine ⟨rfl, ?_⟩
      have hD1 : x1 ≠ D := fun z => by rw [z, hd1] at hx1; cases hx1
      refine ⟨_, s3 _ _ hd1, Evl.sz_lt (by rw [List.length_map]; omega), lns ++ [x1], same_mut (s1.trans s3) hD, ?_, by rw [List.length_append, ln1]; rfl, ?_, fun y hy => ?_, fun j y t' hj ht => ?_⟩
      · rw [upd_same, List.map_append]; rfl
      · rw [List.nodup_append]
        refine ⟨nd1, by simp, fun y hy z hz => ?_⟩
        rw [List.mem_singleton] at hz
        subst hz
        intro e
        subst e
        obtain ⟨j, hj⟩ := List.getElem?_of_mem hy
        have hj' : j < ls.length := by
          have := (List.getElem?_eq_some_iff.mp hj).1
          omega
        obtain ⟨dx', e⟩ := at1 j y _ hj (List.getElem?_eq_getElem hj')
        rw [hx1] at e
        cases e
      · rcases List.mem_append.mp hy with z | z
        · exact nw1 y z
        · rw [List.mem_singleton] at z
          subst z
          exact ⟨none_back s1 hx1, hD1⟩
      · rcases Nat.lt_or_ge j lns.length with z | z
        · rw [List.getElem?_append_left z] at hj
          obtain ⟨dx', e⟩ := at1 j y t' hj ht
          exact ⟨dx', by rw [upd_ne (nw1 y (List.mem_of_getElem? hj)).2]; exact s3 _ _ e⟩
        · rw [List.getElem?_append_right z] at hj
          have z0 : j - lns.length = 0 := by
            have := (List.getElem?_eq_some_iff.mp hj).1
            simp only [List.length_cons, List.length_nil] at this
            omega
          rw [z0] at hj
          cases hj
          have : j = i := by omega
          subst this
          rw [et] at ht
          cases ht
          exact ⟨d1, by rw [upd_ne hD1]; exact upd_same⟩
    rintro H1 ⟨lns, s1, hd1, ln1, nd1, nw1, at1⟩
    have ha1 := s1 _ _ h0
    walk_at "gop"
    refine ⟨a, CO, dx, _, rfl, ha1, Z.cO, Z.nO _ (by decide), lt1000, ?_⟩
    walk_at "gop"
    refine ⟨a, CO, dx, _, rfl, upd_same, Z.cO, Z.nO _ (by decide), lt1000, ?_⟩
    rw [upd_upd]
    have nD : D ≠ a := fun z => by rw [z, h0] at hD; cases hD
    have na : ∀ y ∈ lns, y ≠ a := fun y hy z => by
      have := (nw1 y hy).1
      rw [z, h0] at this
      cases this
    have f2 : ∀ (fs : List (Str × V)) x u, x ≠ a → H1 x = some u → upd H1 a (.ins CO dx fs) x = some u := fun fs x u n e => by rw [upd_ne n]; exact e
    walk_at "gop"
    have e2 : upd H1 a (.ins CO dx (putF "received" (.int 0) (putF "lines" (.ref D) []))) a = some (.ins CO dx (putF "received" (.int 0) (putF "lines" (.ref D) []))) := upd_same
    have f2 := f2 (putF "received" (.int 0) (putF "lines" (.ref D) []))
    generalize upd H1 a (.ins CO dx (putF "received" (.int 0) (putF "lines" (.ref D) []))) = H2 at *
    intro c1 hc1
    have n1 : a ≠ c1 := fun z => by rw [← z, e2] at hc1; cases hc1
    walk_at "gop"
    refine ⟨a, CO, dx, _, rfl, by rw [upd_ne n1]; exact e2, Z.cO, Z.nO _ (by decide), lt1000, ?_⟩
    walk_at "gop"
    have e3 : upd (upd H2 c1 (.lst [])) a (.ins CO dx (putF "changed" (.ref c1) (putF "received" (.int 0) (putF "lines" (.ref D) [])))) a = some (.ins CO dx (putF "changed" (.ref c1) (putF "received" (.int 0) (putF "lines" (.ref D) [])))) := upd_same
    have g3 : upd (upd H2 c1 (.lst [])) a (.ins CO dx (putF "changed" (.ref c1) (putF "received" (.int 0) (putF "lines" (.ref D) [])))) c1 = some (.lst []) := by rw [upd_ne n1.symm]; exact upd_same
    have f3 : ∀ x u, x ≠ a → H1 x = some u → upd (upd H2 c1 (.lst [])) a (.ins CO dx (putF "changed" (.ref c1) (putF "received" (.int 0) (putF "lines" (.ref D) [])))) x = some u := fun x u n e => by
      have := f2 x u n e
      rw [upd_ne n, upd_ne (ne_of_none this hc1)]
      exact this
    generalize upd (upd H2 c1 (.lst [])) a (.ins CO dx (putF "changed" (.ref c1) (putF "received" (.int 0) (putF "lines" (.ref D) [])))) = H3 at *
    intro c2 hc2
    have n2 : a ≠ c2 := fun z => by rw [← z, e3] at hc2; cases hc2
    have n12 : c1 ≠ c2 := ne_of_none g3 hc2
    walk_at "gop"
    refine ⟨a, CO, dx, _, rfl, by rw [upd_ne n2]; exact e3, Z.cO, Z.nO _ (by decide), lt1000, ?_⟩
    have f4 : ∀ x u, x ≠ a → H1 x = some u → upd (upd H3 c2 (.lst [])) a (.ins CO dx (odF ⟨a, dx, D, c1, c2, 0, lns⟩ 0)) x = some u := fun x u n e => by
      have := f3 x u n e
      rw [upd_ne n, upd_ne (ne_of_none this hc2)]
      exact this
    have o1 : H c1 = none := by
      cases e : H c1 with
      | none => rfl
      | some u => rw [f2 c1 u n1.symm (s1 _ _ e)] at hc1; cases hc1
    have o2 : H c2 = none := by
      cases e : H c2 with
      | none => rfl
      | some u => rw [f3 c2 u n2.symm (s1 _ _ e)] at hc2; cases hc2
    have nDc1 : D ≠ c1 := ne_of_none (f2 D _ nD hd1) hc1
    have nDc2 : D ≠ c2 := ne_of_none (f3 D _ nD hd1) hc2
    have at2 : ∀ y ∈ lns, ∃ u, H1 y = some u := fun y hy => by
      obtain ⟨j, hj⟩ := List.getElem?_of_mem hy
      have hj' : j < ls.length := by
        have := (List.getElem?_eq_some_iff.mp hj).1
        omega
      obtain ⟨dx', e⟩ := at1 j y _ hj (List.getElem?_eq_getElem hj')
      exact ⟨_, e⟩
    refine q (upd (upd H3 c2 (.lst [])) a (.ins CO dx (odF ⟨a, dx, D, c1, c2, 0, lns⟩ 0))) D c1 c2 lns (fun x u n e => f4 x u n (s1 _ _ e)) (fun x hx => ?_) fun q => ?_
    · rcases hx with z | z | z | z | z
      · exact .inl z
      · rw [z]; exact .inr hD
      · rw [z]; exact .inr o1
      · rw [z]; exact .inr o2
      · exact .inr (nw1 x z).1
    · refine ⟨upd_same, f4 _ _ nD hd1, by show lns.length = (ls.map LineT.new).length; rw [List.length_map]; omega, fun i x l hx hl2 => ?_, ⟨[], ?_, .nil⟩, ⟨[], ?_, .nil⟩, ?_⟩
      · have hx : lns[i]? = some x := hx
        have hl2 : (ls.map LineT.new)[i]? = some l := hl2
        rw [List.getElem?_map] at hl2
        cases e : ls[i]? with
        | none => rw [e] at hl2; cases hl2
        | some t =>
          rw [e] at hl2
          cases hl2
          obtain ⟨dx', e'⟩ := at1 i x t hx e
          exact ⟨dx', f4 _ _ (na x (List.mem_of_getElem? hx)) e'⟩
      · show upd (upd H3 c2 (.lst [])) a _ c1 = _
        rw [upd_ne n1.symm, upd_ne n12]
        exact g3
      · show upd (upd H3 c2 (.lst [])) a _ c2 = _
        rw [upd_ne n2.symm]
        exact upd_same
      · show (a :: D :: c1 :: c2 :: lns).Nodup
        have m1 : c1 ∉ lns := fun z => by
          obtain ⟨u, e⟩ := at2 c1 z
          exact ne_of_none (f2 c1 u n1.symm e) hc1 rfl
        have m2 : c2 ∉ lns := fun z => by
          obtain ⟨u, e⟩ := at2 c2 z
          exact ne_of_none (f3 c2 u n2.symm e) hc2 rfl
        simp only [List.nodup_cons, List.mem_cons, not_or]
        exact ⟨⟨nD.symm, n1, n2, fun z => na a z rfl⟩, ⟨nDc1, nDc2, fun z => (nw1 D z).2 rfl⟩, ⟨n12, m1⟩, m2, nd1⟩
abbrev N_Order_owed : List Str := ["self", "line"]
abbrev P_Order_owed : List Str := ["self"]
theorem sc_Order_owed : FnScope N_Order_owed P_Order_owed (defScope s_Order_owed) := ⟨rfl, rfl, rfl, by decide +kernel, rfl, by decide +kernel, by decide +kernel⟩
def sp_Order_owed (K : PySem.W.Frag) (CL CO : Addr) : Sp := fun vs H Q _ => ∃ (o : OA2) (m : Od) (es : List Ent), vs = [.ref o.a] ∧ OdAt2 K CL CO H o m es ∧ m.Ok ∧ ∀ H', Same H H' → Q (.int m.owed) H'
theorem m_Order_owed (Z : PF K CL CO CB) (T : Blt mg) (m_Line_charge : MCal P w K mg base CX0 3 CL "charge" P_Line_charge (sp_ln CL Ln.charge)) (D : MAt K CO "owed" "Order.owed" s_Order_owed P_Order_owed) :
    MCal P w K mg base CX0 4 CO "owed" P_Order_owed (sp_Order_owed K CL CO) := by
  refine mcal_of Z.cO D sc_Order_owed (fun vs H Q E h => ?_) (fun f cdv A outer s H vs Q E hr h => ?_)
  · obtain ⟨o, m, es, rfl, _⟩ := h
    rfl
  · obtain ⟨o, m, es, rfl, O, ok, q⟩ := h
    refine ⟨_, (pss_one (ps_ret (pe_op op_sub (pe_callB (kc_sum K rfl) (by rfl) T.m_sum (by decide +kernel) (pa_cons (pe_lc (own := [("line", 1)]) (g := gName 1) (tt := tYes) rfl sc_Order_owed.nd (ki_list K (pe_fld (pv 0) rfl)) (blkOk_by (N := N_Order_owed) (sc := defScope s_Order_owed) (by decide +kernel)) (fun _ _ _ _ _ => pg_name (i := 1) sc_Order_owed.nd rfl (Or.inl rfl)) (fun _ _ _ _ _ => pts_nil) (fun _ _ _ _ _ => (pe_m0 m_Line_charge (pv 1) (hr.mono (by decide)) pass0))) pa_nil)) (pe_fld (pv 0) rfl)))), ?_⟩
    have oh := O.hd
    unfold odF at oh
    walk_at "gop"
    refine ⟨⟨_, SqL.of O.hl⟩, fun D hD => ?_⟩
    refine lcD_list (K := K) (fp := fun _ => False) ((m.lines.map Ln.charge).map PyData.int) (by simpa using O.len) (by have := ok.le; simp; omega) (SqL.of O.hl) hD has_none (fun i x d H8 R hx hd s8 _ k => ?_) (fun H8 ys s8 hd8 r8 _ => ?_)
    · rw [List.getElem?_map] at hx
      rw [List.getElem?_map, List.getElem?_map] at hd
      cases e : m.lines[i]? with
      | none => rw [e] at hd; cases hd
      | some l =>
        rw [e] at hd
        have hd := Option.some.inj hd
        subst hd
        cases e2 : o.lns[i]? with
        | none => rw [e2] at hx; cases hx
        | some y =>
          rw [e2] at hx
          have hx := Option.some.inj hx
          subst hx
          obtain ⟨dx, e3⟩ := O.ln i y l e2 e
          have hl := s8 _ _ e3
          walk_at "gop"
          refine ⟨y, dx, l, rfl, hl, ok.ln l (List.mem_of_getElem? e), ?_⟩
          exact k _ _ (Same.refl _) (.int _)
    · have hy := dpAll_ints_inv r8
      subst hy
      have oh8 := s8 _ _ oh
      walk_at "gop"
      refine ⟨D, _, rfl, SqL.of hd8, ?_⟩
      walk_at "gop"
      exact q H8 s8
abbrev N_Order_overpaid : List Str := ["self"]
abbrev P_Order_overpaid : List Str := ["self"]
theorem sc_Order_overpaid : FnScope N_Order_overpaid P_Order_overpaid (defScope s_Order_overpaid) := ⟨rfl, rfl, rfl, by decide +kernel, rfl, by decide +kernel, by decide +kernel⟩
def sp_Order_overpaid (K : PySem.W.Frag) (CL CO : Addr) : Sp := fun vs H Q _ => ∃ (o : OA2) (m : Od) (es : List Ent), vs = [.ref o.a] ∧ OdAt2 K CL CO H o m es ∧ m.Ok ∧ ∀ H', Same H H' → Q (.int (if -m.owed > 0 then -m.owed else 0)) H'
theorem m_Order_overpaid (Z : PF K CL CO CB) (T : Blt mg) (m_Order_owed : MCal P w K mg base CX0 4 CO "owed" P_Order_owed (sp_Order_owed K CL CO)) (D : MAt K CO "overpaid" "Order.overpaid" s_Order_overpaid P_Order_overpaid) :
    MCal P w K mg base CX0 5 CO "overpaid" P_Order_overpaid (sp_Order_overpaid K CL CO) := by
  refine mcal_of Z.cO D sc_Order_overpaid (fun vs H Q E h => ?_) (fun f cdv A outer s H vs Q E hr h => ?_)
  · obtain ⟨o, m, es, rfl, _⟩ := h
    rfl
  · obtain ⟨o, m, es, rfl, O, ok, q⟩ := h
    refine ⟨_, (pss_one (ps_ret (pe_callB (call_max2 rfl) (by rfl) T.m_max (by decide +kernel) (pa_cons pe_int (pa_cons (pe_un un_neg (pe_m0 m_Order_owed (pv 0) (hr.mono (by decide)) pass0)) pa_nil))))), ?_⟩
    have oh := O.hd
    unfold odF at oh
    walk_at "gop"
    refine ⟨o, m, es, rfl, O, ok, fun H' s' => ?_⟩
    walk_at "gop"
    exact q H' s'
end
section
variable {P : Program} {w : World} {K : PySem.W.Frag} {mg : Str → Option Value} {base : Heap} {CL CO CB : Addr}
theorem OdAt2.same {H H' : Hp} {o : OA2} {m : Od} {es : List Ent} (O : OdAt2 K CL CO H o m es) (ok : m.Ok) (s : Same H H') : OdAt2 K CL CO H' o m es := O.frame ok.rw (fun x u _ e => s x u e) (.same s)
theorem OdAt2.at_ {H : Hp} {o : OA2} {m : Od} {es : List Ent} (O : OdAt2 K CL CO H o m es) {n : Int} (h0 : 0 ≤ n) (h1 : n < (m.lines.length : Int)) :
    ∃ x dx, o.lns[n.toNat]? = some x ∧ atI (o.lns.map V.ref) n = some (.ref x) ∧ m.lines[n.toNat]? = some (lnAt m n) ∧ H x = some (.ins CL dx (lnF (lnAt m n))) := by
  have h : n.toNat < o.lns.length := by rw [O.len]; omega
  have e : m.lines[n.toNat]? = some (lnAt m n) := getD_at h0 h1
  obtain ⟨dx, hx⟩ := O.ln _ _ _ (List.getElem?_eq_getElem h) e
  refine ⟨o.lns[n.toNat], dx, List.getElem?_eq_getElem h, ?_, e, hx⟩
  refine (congrArg (atI _) (Int.toNat_of_nonneg h0).symm).trans (atI_nat ?_)
  rw [List.getElem?_map, List.getElem?_eq_getElem h]
  rfl
theorem goods_ok {z : Str} (h : GoodsW z) : PyData.strOk z = true := by
  rcases h with rfl | rfl | rfl | rfl <;> decide +kernel
abbrev N_Order_change_line : List Str := ["self", "word", "place", "amount", "line", "charge", "more"]
abbrev P_Order_change_line : List Str := ["self", "word", "place", "amount"]
theorem sc_Order_change_line : FnScope N_Order_change_line P_Order_change_line (defScope s_Order_change_line) := ⟨rfl, rfl, rfl, by decide +kernel, rfl, by decide +kernel, by decide +kernel⟩
def lnE (rc : Int) (pl : Int) (l : Ln) : Ent := ⟨rc, some (pl.toNat, l.sent, l.home, l.again, l.credited)⟩
def sp_Order_change_line (K : PySem.W.Frag) (CL CO : Addr) : Sp := fun vs H Q _ => ∃ (o : OA2) (m : Od) (es : List Ent) (z : Str) (pl n : Int), vs = [.ref o.a, .str z, .int pl, .int n] ∧ OdAt2 K CL CO H o m es ∧ m.Ok ∧ 0 ≤ pl ∧ pl < (m.lines.length : Int) ∧ GoodsW z ∧ m.rows.length ≤ 20000 ∧ es.length ≤ 20000 ∧
  ∀ H', Keep (Foot o) H H' → OdAt2 K CL CO H' o (addRow (setLine m pl.toNat (turnL z n (lnAt m pl))) z ((turnL z n (lnAt m pl)).charge - (lnAt m pl).charge)) (es ++ [lnE m.paid pl (lnAt m pl)]) → Q (.int ((turnL z n (lnAt m pl)).charge - (lnAt m pl).charge)) H'
theorem m_Order_change_line (Z : PF K CL CO CB) (T : Blt mg) (m_Line_charge : MCal P w K mg base CX0 3 CL "charge" P_Line_charge (sp_ln CL Ln.charge)) (m_Line_numbers : MCal P w K mg base CX0 1 CL "numbers" P_Line_numbers (sp_Line_numbers CL))
    (m_Line_change : MCal P w K mg base CX0 4 CL "change" P_Line_change (sp_Line_change CL)) (D : MAt K CO "change_line" "Order.change_line" s_Order_change_line P_Order_change_line) : MCal P w K mg base CX0 5 CO "change_line" P_Order_change_line (sp_Order_change_line K CL CO) := by
  refine mcal_of Z.cO D sc_Order_change_line (fun vs H Q E h => ?_) (fun f cdv A outer s H vs Q E hr h => ?_)
  · obtain ⟨o, m, es, z, pl, n, rfl, _⟩ := h
    rfl
  · obtain ⟨o, m, es, z, pl, n, rfl, O, ok, p0, p1, gw, rz, ez, q⟩ := h
    refine ⟨_, (pss_cons (ps_set (i := 4) sc_Order_change_line.nd rfl (Or.inl rfl) (pe_ix (kx_list K) (pe_fld (pv 0) rfl) (pv 2) (fun _ _ => rfl)))
      (pss_cons (ps_set (i := 5) sc_Order_change_line.nd rfl (Or.inl rfl) (pe_m0 m_Line_charge (pv 4) (hr.mono (by decide)) pass0))
      (pss_cons (ps_expr (pe_bm PySem.F.plainAttrs_list PySem.F.slot_list_append PySem.F.type_list_append mt_append (pe_fld (pv 0) rfl) (pa_cons (pe_tup (pa_cons (pe_fld (pv 0) rfl) (pa_cons (pv 4) (pa_cons (pe_m0 m_Line_numbers (pv 4) (hr.mono (by decide)) pass0) pa_nil)))) pa_nil)))
      (pss_cons (ps_expr (pe_m m_Line_change (pv 4) (hr.mono (by decide)) pass0 (pa_cons (pv 1) (pa_cons (pv 3) pa_nil))))
      (pss_cons (ps_set (i := 6) sc_Order_change_line.nd rfl (Or.inl rfl) (pe_op op_sub (pe_m0 m_Line_charge (pv 4) (hr.mono (by decide)) pass0) (pv 5)))
      (pss_cons (ps_expr (pe_bm PySem.F.plainAttrs_list PySem.F.slot_list_append PySem.F.type_list_append mt_append (pe_fld (pv 0) rfl) (pa_cons (pe_tup (pa_cons (pv 1) (pa_cons (pv 6) pa_nil))) pa_nil)))
      (pss_one (ps_ret (pv 6))))))))), ?_⟩
    obtain ⟨x, dx, x1, x2, x3, x4⟩ := O.at_ p0 p1
    have lok := ok.at_ p0 p1
    have oh := O.hd
    have ol := O.hl
    generalize lnAt m pl = l at *
    unfold odF at oh
    have fx : Foot o x := .inr (.inr (.inr (.inr (List.mem_of_getElem? x1))))
    walk_at "gop"
    refine ⟨x, dx, l, rfl, x4, lok, ?_⟩
    obtain ⟨as, a1, a2⟩ := O.ha
    walk_at "gop"
    refine ⟨.inl ⟨rfl, _, SqL.of a1⟩, ?_⟩
    walk_at "gop"
    refine ⟨x, dx, l, rfl, x4, fun t1 ht1 => ?_⟩
    walk_at "gop"
    intro t2 ht2
    have s1 : Same H (upd H t1 (.tup [.int l.sent, .int l.home, .int l.again, .int l.credited])) := same_new ht1
    have s2 : Same H _ := s1.trans (same_new (o := .tup [.int m.paid, .ref x, .ref t1]) ht2)
    have u1 := same_new (o := .tup [.int m.paid, .ref x, .ref t1]) ht2 _ _ (upd_same (H := H) (a := t1) (o := .tup [.int l.sent, .int l.home, .int l.again, .int l.credited]))
    have u2 : upd (upd H t1 (.tup [.int l.sent, .int l.home, .int l.again, .int l.credited])) t2 (.tup [.int m.paid, .ref x, .ref t1]) t2 = some (.tup [.int m.paid, .ref x, .ref t1]) := upd_same
    generalize upd (upd H t1 (.tup [.int l.sent, .int l.home, .int l.again, .int l.credited])) t2 (.tup [.int m.paid, .ref x, .ref t1]) = H2 at *
    have O2 := O.same ok s2
    have a12 := s2 _ _ a1
    have la := Paired.length a2
    refine ⟨o.ah, as, _, rfl, rfl, a12, Evl.sz_lt (by omega), ?_⟩
    have O3 : OdAt2 K CL CO (upd H2 o.ah (.lst (as ++ [.ref t2]))) o m (es ++ [lnE m.paid pl l]) := O2.ahd ok.rw fun H' tk => by
      refine paired_append (Paired.imp (fun _ _ h => (h.tupK (.same s2)).tupK tk) a2) (.cons ⟨t2, rfl, .inr ⟨_, _, _, _, _, x, t1, rfl, x1, SqT.tupK tk (SqT.of u2), SqT.tupK tk (SqT.of u1)⟩⟩ .nil)
    have k3 : Keep (Foot o) H (upd H2 o.ah (.lst (as ++ [.ref t2]))) := (Keep.same s2).trans (Keep.upd1 (.inr (.inr (.inr (.inl rfl)))) a12 no_lst no_lst)
    have x43 : upd H2 o.ah (.lst (as ++ [.ref t2])) x = some (.ins CL dx (lnF l)) := by
      rw [upd_ne fun e => (nd_of O).2.2.2.2.2.2.2.2.2.1 (by rw [← e]; exact List.mem_of_getElem? x1)]
      exact s2 _ _ x4
    generalize upd H2 o.ah (.lst (as ++ [.ref t2])) = H3 at *
    walk_at "gop"
    refine ⟨x, dx, l, z, n, rfl, x43, lok, gw, ?_⟩
    have O4 : OdAt2 K CL CO (upd H3 x (.ins CL dx (lnF (turnL z n l)))) o (setLine m pl.toNat (turnL z n l)) (es ++ [lnE m.paid pl l]) := O3.setLine ok.rw x1 x43
    have k4 : Keep (Foot o) H (upd H3 x (.ins CL dx (lnF (turnL z n l)))) := k3.trans (Keep.upd1 fx x43 no_ins no_ins)
    have x44 : upd H3 x (.ins CL dx (lnF (turnL z n l))) x = some (.ins CL dx (lnF (turnL z n l))) := upd_same
    generalize upd H3 x (.ins CL dx (lnF (turnL z n l))) = H4 at *
    have ok4 : (setLine m pl.toNat (turnL z n l)).Ok := ok.setLine lok.turn
    have oh4 := O4.hd
    unfold odF at oh4
    walk_at "gop"
    refine ⟨x, dx, _, rfl, x44, lok.turn, ?_⟩
    obtain ⟨cs, c1, c2⟩ := O4.hc
    walk_at "gop"
    refine ⟨.inl ⟨rfl, _, SqL.of c1⟩, ?_⟩
    walk_at "gop"
    intro t3 ht3
    have s5 : Same H4 (upd H4 t3 (.tup [.str z, .int ((turnL z n l).charge - l.charge)])) := same_new ht3
    have u5 : upd H4 t3 (.tup [.str z, .int ((turnL z n l).charge - l.charge)]) t3 = some (.tup [.str z, .int ((turnL z n l).charge - l.charge)]) := upd_same
    generalize upd H4 t3 (.tup [.str z, .int ((turnL z n l).charge - l.charge)]) = H5 at *
    have O5 := O4.same ok4 s5
    have c15 := s5 _ _ c1
    have lc := c2.length
    rw [List.length_map] at lc
    have lc : cs.length = m.rows.length := lc
    refine ⟨o.ch, cs, _, rfl, rfl, c15, Evl.sz_lt (by omega), ?_⟩
    walk_at "gop"
    refine q _ ((k4.trans (Keep.same s5)).trans (Keep.upd1 (.inr (.inr (.inl rfl))) c15 no_lst no_lst)) ?_
    refine O5.chg (rs := m.rows ++ [(z, (turnL z n l).charge - l.charge)]) ok4.rw fun H' tk => ?_
    rw [List.map_append]
    exact (flat_tupK tk (rows_flat ok.rw) (c2.same s5)).append (.cons (.tup (SqT.tupK tk (SqT.of u5)) (.cons (.str _) (.cons (.int _) .nil))) .nil)
abbrev N_Order_receive : List Str := ["self", "word", "cents"]
abbrev P_Order_receive : List Str := ["self", "word", "cents"]
theorem sc_Order_receive : FnScope N_Order_receive P_Order_receive (defScope s_Order_receive) := ⟨rfl, rfl, rfl, by decide +kernel, rfl, by decide +kernel, by decide +kernel⟩
def sp_Order_receive (K : PySem.W.Frag) (CL CO : Addr) : Sp := fun vs H Q _ => ∃ (o : OA2) (m : Od) (es : List Ent) (z : Str) (n : Int), vs = [.ref o.a, .str z, .int n] ∧ OdAt2 K CL CO H o m es ∧ m.Ok ∧ m.rows.length ≤ 20000 ∧ es.length ≤ 20000 ∧
  ∀ H', Keep (Foot o) H H' → OdAt2 K CL CO H' o (addRow (addPaid m n) z (-n)) (es ++ [⟨m.paid, none⟩]) → Q (.int (-n)) H'
theorem m_Order_receive (Z : PF K CL CO CB) (T : Blt mg) (D : MAt K CO "receive" "Order.receive" s_Order_receive P_Order_receive) : MCal P w K mg base CX0 1 CO "receive" P_Order_receive (sp_Order_receive K CL CO) := by
  refine mcal_of Z.cO D sc_Order_receive (fun vs H Q E h => ?_) (fun f cdv A outer s H vs Q E hr h => ?_)
  · obtain ⟨o, m, es, z, n, rfl, _⟩ := h
    rfl
  · obtain ⟨o, m, es, z, n, rfl, O, ok, rz, ez, q⟩ := h
    refine ⟨_, (pss_cons (ps_expr (pe_bm PySem.F.plainAttrs_list PySem.F.slot_list_append PySem.F.type_list_append mt_append (pe_fld (pv 0) rfl) (pa_cons (pe_tup (pa_cons (pe_fld (pv 0) rfl) (pa_cons pe_non (pa_cons pe_non pa_nil)))) pa_nil)))
      (pss_cons (ps_fldaug (pv 0) (pv 2) in_add)
      (pss_cons (ps_expr (pe_bm PySem.F.plainAttrs_list PySem.F.slot_list_append PySem.F.type_list_append mt_append (pe_fld (pv 0) rfl) (pa_cons (pe_tup (pa_cons (pv 1) (pa_cons (pe_un un_neg (pv 2)) pa_nil))) pa_nil)))
      (pss_one (ps_ret (pe_un un_neg (pv 2))))))), ?_⟩
    have oh := O.hd
    unfold odF at oh
    obtain ⟨as, a1, a2⟩ := O.ha
    walk_at "gop"
    refine ⟨.inl ⟨rfl, _, SqL.of a1⟩, ?_⟩
    walk_at "gop"
    intro t2 ht2
    have s2 : Same H (upd H t2 (.tup [.int m.paid, .non, .non])) := same_new ht2
    have u2 : upd H t2 (.tup [.int m.paid, .non, .non]) t2 = some (.tup [.int m.paid, .non, .non]) := upd_same
    generalize upd H t2 (.tup [.int m.paid, .non, .non]) = H2 at *
    have O2 := O.same ok s2
    have a12 := s2 _ _ a1
    have la := Paired.length a2
    refine ⟨o.ah, as, _, rfl, rfl, a12, Evl.sz_lt (by omega), ?_⟩
    have O3 : OdAt2 K CL CO (upd H2 o.ah (.lst (as ++ [.ref t2]))) o m (es ++ [⟨m.paid, none⟩]) := O2.ahd ok.rw fun H' tk => by
      refine paired_append (Paired.imp (fun _ _ h => (h.tupK (.same s2)).tupK tk) a2) (.cons ⟨t2, rfl, .inl ⟨rfl, SqT.tupK tk (SqT.of u2)⟩⟩ .nil)
    have k3 : Keep (Foot o) H (upd H2 o.ah (.lst (as ++ [.ref t2]))) := (Keep.same s2).trans (Keep.upd1 (.inr (.inr (.inr (.inl rfl)))) a12 no_lst no_lst)
    generalize upd H2 o.ah (.lst (as ++ [.ref t2])) = H3 at *
    have oh3 := O3.hd
    have e3 : putF "received" (.int (m.paid + n)) (odF o m.paid) = odF o (m.paid + n) := rfl
    have O4 : OdAt2 K CL CO (upd H3 o.a (.ins CO o.dx (odF o (m.paid + n)))) o (addPaid m n) (es ++ [⟨m.paid, none⟩]) := O3.setPaid ok.rw
    have k4 : Keep (Foot o) H (upd H3 o.a (.ins CO o.dx (odF o (m.paid + n)))) := k3.trans (Keep.upd1 (.inl rfl) oh3 no_ins no_ins)
    have oh3' := oh3
    unfold odF at oh3'
    walk_at "gop"
    refine ⟨o.dx, _, oh3, lt1000, ?_⟩
    rw [e3]
    generalize upd H3 o.a (.ins CO o.dx (odF o (m.paid + n))) = H4 at *
    have ok4 : (addPaid m n).Ok := ok.addPaid
    have oh4 := O4.hd
    unfold odF at oh4
    obtain ⟨cs, c1, c2⟩ := O4.hc
    walk_at "gop"
    refine ⟨.inl ⟨rfl, _, SqL.of c1⟩, ?_⟩
    walk_at "gop"
    intro t3 ht3
    have s5 : Same H4 (upd H4 t3 (.tup [.str z, .int (-n)])) := same_new ht3
    have u5 : upd H4 t3 (.tup [.str z, .int (-n)]) t3 = some (.tup [.str z, .int (-n)]) := upd_same
    generalize upd H4 t3 (.tup [.str z, .int (-n)]) = H5 at *
    have O5 := O4.same ok4 s5
    have c15 := s5 _ _ c1
    have lc := c2.length
    rw [List.length_map] at lc
    have lc : cs.length = m.rows.length := lc
    refine ⟨o.ch, cs, _, rfl, rfl, c15, Evl.sz_lt (by omega), ?_⟩
    walk_at "gop"
    refine q _ ((k4.trans (Keep.same s5)).trans (Keep.upd1 (.inr (.inr (.inl rfl))) c15 no_lst no_lst)) ?_
    refine O5.chg (rs := m.rows ++ [(z, -n)]) ok4.rw fun H' tk => ?_
    rw [List.map_append]
    exact (flat_tupK tk (rows_flat ok.rw) (c2.same s5)).append (.cons (.tup (SqT.tupK tk (SqT.of u5)) (.cons (.str _) (.cons (.int _) .nil))) .nil)
end
section
variable {P : Program} {w : World} {K : PySem.W.Frag} {mg : Str → Option Value} {base : Heap} {CL CO CB : Addr}
/-! ### the program's book -/
abbrev N_Book___init__ : List Str := ["self"]
abbrev P_Book___init__ : List Str := ["self"]
theorem sc_Book___init__ : FnScope N_Book___init__ P_Book___init__ (defScope s_Book___init__) := ⟨rfl, rfl, rfl, by decide +kernel, rfl, by decide +kernel, by decide +kernel⟩
theorem mk_Book (Z : PF K CL CO CB) (g : mg "Book" = some (.ref CB)) (D : IAt K CB "Book.__init__" s_Book___init__ P_Book___init__) : BMk P w K mg base 1 (theR K CL CO CB) := by
  obtain ⟨f, fd, M, F, b⟩ := D.ex
  refine ⟨⟨f, fd, P_Book___init__, M, F.okX sc_Book___init__ (fun vs H Q E h => ?_) (fun cdv A outer s H vs Q E hr h => ?_), b⟩, g⟩
  · obtain ⟨b, dx, rfl, _⟩ := h
    rfl
  · obtain ⟨b, dx, rfl, h0, _, q⟩ := h
    refine ⟨_, (pss_cons (ps_fld (pv 0) (pe_lst pa_nil) rfl)
      (pss_one (ps_fld (pv 0) (pe_lst pa_nil) rfl))), ?_⟩
    have h0 : H b = some (.ins CB dx []) := h0
    walk_at "gop"
    intro ol h1
    have n1 : b ≠ ol := ne_of_none h0 h1
    walk_at "gop"
    refine ⟨b, CB, dx, _, rfl, by rw [upd_ne n1]; exact h0, Z.cB, Z.nB _ (by decide), lt1000, ?_⟩
    have e1 : upd (upd H ol (.lst [])) b (.ins CB dx (putF "_orders" (.ref ol) [])) b = some (.ins CB dx (putF "_orders" (.ref ol) [])) := upd_same
    have e2 : upd (upd H ol (.lst [])) b (.ins CB dx (putF "_orders" (.ref ol) [])) ol = some (.lst []) := by rw [upd_ne n1.symm]; exact upd_same
    have k2 : Keep (fun a => a = b) H (upd (upd H ol (.lst [])) b (.ins CB dx (putF "_orders" (.ref ol) []))) := (Keep.same (same_new h1)).trans (Keep.upd1 rfl (same_new h1 _ _ h0) no_ins no_ins)
    generalize upd (upd H ol (.lst [])) b (.ins CB dx (putF "_orders" (.ref ol) [])) = H2 at *
    walk_at "gop"
    intro dl h2
    have n2 : b ≠ dl := ne_of_none e1 h2
    have n3 : ol ≠ dl := ne_of_none e2 h2
    walk_at "gop"
    refine ⟨b, CB, dx, _, rfl, by rw [upd_ne n2]; exact e1, Z.cB, Z.nB _ (by decide), lt1000, ?_⟩
    refine q _ (fun x => x = b ∨ x = ol ∨ x = dl) (.inl rfl) (fun x hx => ?_) ((k2.trans (Keep.same (same_new h2))).trans (Keep.upd1 rfl (same_new h2 _ _ e1) no_ins no_ins)) ?_
    · rcases hx with z | z | z
      · exact .inl z
      · rw [z]; exact .inr (.inr h1)
      · rw [z]; exact .inr (.inr (k2.none h2))
    have a1 : upd (upd H2 dl (.lst [])) b (.ins CB dx (putF "_deeds" (.ref dl) (putF "_orders" (.ref ol) []))) ol = some (.lst []) := by rw [upd_ne n1.symm, upd_ne n3]; exact e2
    have a2 : upd (upd H2 dl (.lst [])) b (.ins CB dx (putF "_deeds" (.ref dl) (putF "_orders" (.ref ol) []))) dl = some (.lst []) := by rw [upd_ne n2.symm]; exact upd_same
    refine ⟨[], dx, ol, dl, [], [], ⟨upd_same, a1, a2, rfl, rfl, (fun _ _ _ _ z => by cases z), (fun _ z => by cases z), .nil, n3, (fun _ z => by cases z), (fun _ z => by cases z), (fun _ _ _ _ _ z => by cases z), ⟨.inl rfl, .inr (.inl rfl), .inr (.inr rfl), (fun _ z => by cases z)⟩, fun x hx => ?_⟩, rfl, rfl⟩
    rcases hx with z | z | z
    · rw [z]; exact ⟨_, upd_same, no_ins⟩
    · rw [z]; exact ⟨_, a1, no_lst⟩
    · rw [z]; exact ⟨_, a2, no_lst⟩
abbrev N_Book__found : List Str := ["self", "number"]
abbrev P_Book__found : List Str := ["self", "number"]
theorem sc_Book__found : FnScope N_Book__found P_Book__found (defScope s_Book__found) := ⟨rfl, rfl, rfl, by decide +kernel, rfl, by decide +kernel, by decide +kernel⟩
def sp_found (K : PySem.W.Frag) (CL CO CB : Addr) (cl : Str → Addr) : Sp := fun vs H Q E => ∃ (fp : Addr → Prop) (b : Addr) (M : List Od) (ES : List (List Ent)) (past : List (Deed × List Od)) (dx ol dl : Addr) (os : List OA2) (dv : List V) (n : Int), vs = [.ref b, .int n] ∧ ShpAt K CL CO CB fp H b M ES past dx ol dl os dv ∧
  (inR n M.length = true → ∀ o, os[n.toNat]? = some o → Q (.ref o.a) H) ∧ (inR n M.length = false → E (.ref (cl "NoOrder")) none H)
theorem os_at {os : List OA2} {n : Int} (h0 : 0 ≤ n) (h1 : n < (os.length : Int)) : ∃ o, os[n.toNat]? = some o ∧ atI (os.map fun o => V.ref o.a) n = some (.ref o.a) := by
  have h : n.toNat < os.length := by omega
  refine ⟨os[n.toNat], List.getElem?_eq_getElem h, ?_⟩
  refine (congrArg (atI _) (Int.toNat_of_nonneg h0).symm).trans (atI_nat ?_)
  rw [List.getElem?_map, List.getElem?_eq_getElem h]
  rfl
theorem m_Book__found {cl : Str → Addr} (Z : PF K CL CO CB) (T : Blt mg) (ER : ErrMk K mg cl) (D : MAt K CB "_found" "Book._found" s_Book__found P_Book__found) : MCal P w K mg base (L2.CX P w) 1 CB "_found" P_Book__found (sp_found K CL CO CB cl) := by
  refine mcal_ofX Z.cB D sc_Book__found (fun vs H Q E h => ?_) (fun f cdv A outer s H vs Q E hr h => ?_)
  · obtain ⟨fp, b, M, ES, past, dx, ol, dl, os, dv, n, rfl, _⟩ := h
    rfl
  · obtain ⟨fp, b, M, ES, past, dx, ol, dl, os, dv, n, rfl, A, q, qe⟩ := h
    refine ⟨_, (pss_cons (ps_if (pt_not (pt_chain op_le op_lt pe_int (pv 1) (pe_callB (kc_len K) (by rfl) T.m_len PySem.boot_len (pa_cons (pe_fld (pv 0) rfl) pa_nil))))
        (pss_one (ps_raise rfl (takes_of rfl rfl rfl rfl) (ER.pmk "NoOrder" (by decide))))
        pss_nil)
      (pss_one (ps_ret (pe_ix (kx_list K) (pe_fld (pv 0) rfl) (pv 1) (fun _ _ => rfl))))), ?_⟩
    have hb := A.hb
    have ho := A.ho
    have zl : ((os.map fun o => V.ref o.a).length : Nat) = M.length := by rw [List.length_map]; exact A.lM
    walk_at "gop"
    refine ite2 (fun h => ?_) (fun h => ?_)
    rotate_left
    · walk_at "gop"
      refine qe (inR_no fun z => h (decide_eq_true z.1))
    have h := of_decide_eq_true h
    walk_at "gop"
    rw [zl]
    refine ite2 (fun g => ?_) (fun g => ?_)
    rotate_left
    · walk_at "gop"
      refine qe (inR_no fun z => g (decide_eq_true z.2))
    have g := of_decide_eq_true g
    obtain ⟨o, e1, e2⟩ := os_at h (by rw [A.lM]; exact g)
    walk_at "gop"
    exact q (inR_iff.mpr ⟨h, g⟩) o e1
abbrev N_Book__begin : List Str := ["self", "lines"]
abbrev P_Book__begin : List Str := ["self", "lines"]
theorem sc_Book__begin : FnScope N_Book__begin P_Book__begin (defScope s_Book__begin) := ⟨rfl, rfl, rfl, by decide +kernel, rfl, by decide +kernel, by decide +kernel⟩
def sp_begin (K : PySem.W.Frag) (CL CO CB : Addr) (cl : Str → Addr) : Sp := fun vs H Q E => ∃ (fp : Addr → Prop) (b p : Addr) (M : List Od) (ES : List (List Ent)) (past : List (Deed × List Od)) (dx ol dl : Addr) (os : List OA2) (dv xs : List V) (ls : List LineT), vs = [.ref b, .ref p] ∧
  ShpAt K CL CO CB fp H b M ES past dx ol dl os dv ∧ Hist past M ES ∧ past.length ≤ 5000 ∧ SqL K (off fp H) p xs ∧ DpAll K (off fp H) xs (ls.map lineD) ∧ (Deed.ord ls).Small ∧
  (refuseM M (.ord ls) = "" → ∀ H' q os' dv' o, Keep fp H H' → (∀ x, Foot o x ∨ x = o.q → H x = none) → ShpAt K CL CO CB (fun x => fp x ∨ Foot o x ∨ x = o.q) H' b (stepM M (.ord ls)) (stepE M ES (.ord ls)) ((.ord ls, M) :: past) dx ol dl os' dv' → H q = none → ¬ (fp q ∨ Foot o q ∨ q = o.q) → H' q = some (.lst []) → Q (.ref q) H') ∧
  (refuseM M (.ord ls) ≠ "" → ∀ H', Same H H' → E (.ref (cl (refuseM M (.ord ls)))) none H')
theorem m_Book__begin {cl : Str → Addr} (Z : PF K CL CO CB) (T : Blt mg) (CS : Consts mg) (ER : ErrMk K mg cl) (c_refuse_lines : Cal P w K mg base (L2.CX P w) 2 "refuse_lines" P_refuse_lines (sp_refuse_lines K cl)) (mk_Order : MkC P w K mg base CX0 3 CO "Order" P_Order___init__ (sp_Order_init K CL CO))
    (D : MAt K CB "_begin" "Book._begin" s_Book__begin P_Book__begin) : MCal P w K mg base (L2.CX P w) 5 CB "_begin" P_Book__begin (sp_begin K CL CO CB cl) := by
  refine mcal_ofX Z.cB D sc_Book__begin (fun vs H Q E h => ?_) (fun f cdv A outer s H vs Q E hr h => ?_)
  · obtain ⟨fp, b, p, M, ES, past, dx, ol, dl, os, dv, xs, ls, rfl, _⟩ := h
    rfl
  · obtain ⟨fp, b, p, M, ES, past, dx, ol, dl, os, dv, xs, ls, rfl, A, hi, pz, hS, dd, sm, q, qe⟩ := h
    refine ⟨_, (pss_cons (ps_expr (pe_cal c_refuse_lines (hr.mono (by decide)) (passes_call (takes_of rfl rfl rfl rfl) fun _ _ _ _ z => z) (pa_cons (pv 1) pa_nil)))
      (pss_cons (ps_if (pt_cmpR op_ge (pe_callB (kc_len K) (by rfl) T.m_len PySem.boot_len (pa_cons (pe_fld (pv 0) rfl) pa_nil)) (pe_gint CS.k_MOST_ORDERS) (nomark _))
        (pss_one (ps_raise rfl (takes_of rfl rfl rfl rfl) (ER.pmk "FullBook" (by decide))))
        pss_nil)
      (pss_cons (ps_expr (pe_bm PySem.F.plainAttrs_list PySem.F.slot_list_append PySem.F.type_list_append mt_append (pe_fld (pv 0) rfl) (pa_cons (pe_mkC mk_Order (hr.mono (by decide)) pass0 (pa_cons (pv 1) pa_nil)) pa_nil)))
      (pss_cons (ps_expr (pe_bm PySem.F.plainAttrs_list PySem.F.slot_list_append PySem.F.type_list_append mt_append (pe_fld (pv 0) rfl) (pa_cons (pe_tup (pa_cons pe_str (pa_cons (pe_callTy (kc_list K) (by rfl) T.m_list PyProof.Rows.boot_list (pa_cons (pv 1) pa_nil)) pa_nil))) pa_nil)))
      (pss_one (ps_ret (pe_lst pa_nil))))))), ?_⟩
    have er : refuseM M (.ord ls) = (if ls.length = 0 ∨ 20 < ls.length then "NoLines" else if ¬ firstBad ls = "" then firstBad ls else if 40 ≤ M.length then "FullBook" else "" : Str) := rfl
    have eb : badLines ls ≠ "" → refuseM M (.ord ls) = badLines ls := fun h => by
      rw [er]
      unfold badLines at h ⊢
      by_cases h1 : ls.length = 0 ∨ 20 < ls.length
      · rw [if_pos h1, if_pos h1]
      · rw [if_neg h1] at h
        rw [if_neg h1, if_neg h1, if_pos h]
    have ef : badLines ls = "" → refuseM M (.ord ls) = (if 40 ≤ M.length then "FullBook" else "" : Str) := fun h => by
      rw [er]
      unfold badLines at h
      by_cases h1 : ls.length = 0 ∨ 20 < ls.length
      · rw [if_pos h1] at h
        exact absurd h (by decide +kernel)
      · rw [if_neg h1] at h
        rw [if_neg h1, if_neg fun z => z h]
    walk_at "gop"
    refine ⟨p, xs, ls, rfl, same_l off_same hS, dd.same off_same, sm.1, fun t ht => (sm.2 t ht).1, fun ok1 H1 s1 => ?_, fun no H1 s1 => ?_⟩
    rotate_left
    · rw [eb no] at qe
      exact qe no H1 s1
    have ef := ef ok1
    have hb1 := s1 _ _ A.hb
    have ho1 := s1 _ _ A.ho
    have zl : ((os.map fun o => V.ref o.a).length : Nat) = M.length := by rw [List.length_map]; exact A.lM
    walk_at "gop"
    rw [zl]
    refine ite2 (fun g => ?_) (fun g => ?_)
    · have g := of_decide_eq_true g
      rw [if_pos (by omega)] at ef
      rw [ef] at qe
      walk_at "gop"
      exact qe (by decide +kernel) H1 s1
    have g : M.length < 40 := by
      have := of_decide_eq_false (bfalse g)
      omega
    rw [if_neg (by omega)] at ef
    have q0 := q ef
    clear q
    obtain ⟨lo, _⟩ := legal_ord ef
    walk_at "gop"
    refine ⟨.inl ⟨rfl, _, SqL.of ho1⟩, ?_⟩
    walk_at "gop"
    intro a1 d1 ha1 hd1 ne
    have s2 : Same H1 (upd (upd H1 d1 (.own a1)) a1 (.ins CO d1 [])) := (same_new hd1).trans (same_new (by rw [upd_ne ne.symm]; exact ha1))
    have s12 := s1.trans s2
    refine ⟨a1, d1, p, xs, ls, rfl, upd_same, same_l s12 (same_l off_same hS), (dd.same off_same).same s12, sm.1, fun H3 la ch ah lns f3 nw3 O3 => ?_⟩
    refine ⟨rfl, ?_⟩
    have oa1 : H a1 = none := none_back s1 ha1
    have f3 : ∀ x u, H x = some u → H3 x = some u := fun x u e => f3 x u (ne_of_none e oa1) (s12 _ _ e)
    have nw3 : ∀ x, Foot ⟨a1, d1, la, ch, ah, 0, lns⟩ x → H x = none := fun x hx => by
      rcases nw3 x hx with z | z
      · rw [z]; exact oa1
      · exact none_back s12 z
    have ho3 := f3 _ _ A.ho
    have mz := A.lM
    refine ⟨ol, _, _, rfl, rfl, ho3, Evl.sz_lt (by rw [List.length_map]; omega), ?_⟩
    obtain ⟨f1, f2, f3', f4'⟩ := A.fps
    have nbo : b ≠ ol := fun z => by have := A.hb; rw [z, A.ho] at this; cases this
    have nbd : b ≠ dl := fun z => by have := A.hb; rw [z, A.hd] at this; cases this
    have f4 : ∀ x u, x ≠ ol → H x = some u → upd H3 ol (.lst ((os.map fun o => V.ref o.a) ++ [.ref a1])) x = some u := fun x u n e => by rw [upd_ne n]; exact f3 x u e
    have o4 : upd H3 ol (.lst ((os.map fun o => V.ref o.a) ++ [.ref a1])) ol = some (.lst ((os.map fun o => V.ref o.a) ++ [.ref a1])) := upd_same
    have tk4 : TupK H3 (upd H3 ol (.lst ((os.map fun o => V.ref o.a) ++ [.ref a1]))) := tupK_upd ho3 no_lst
    have nfo : ¬ Foot ⟨a1, d1, la, ch, ah, 0, lns⟩ ol := fun z => by
      have := nw3 ol z
      rw [A.ho] at this
      cases this
    have O4 : ∀ q, OdAt2 K CL CO (upd H3 ol (.lst ((os.map fun o => V.ref o.a) ++ [.ref a1]))) ⟨a1, d1, la, ch, ah, q, lns⟩ ⟨ls.map LineT.new, 0, []⟩ [] := fun q => (O3 q).frame (fun _ z => by cases z) (fun x u hx e => by rw [upd_ne fun z => nfo (by rw [← z]; exact hx)]; exact e) tk4
    generalize upd H3 ol (.lst ((os.map fun o => V.ref o.a) ++ [.ref a1])) = H4 at *
    have hb4 := f4 _ _ nbo A.hb
    have hd4 := f4 _ _ A.nol.symm A.hd
    have so4 : Same (off fp H) H4 := fun x u e => by
      obtain ⟨e1, e2⟩ := off_some e
      exact f4 x u (fun z => e1 (by rw [z]; exact f2)) e2
    have hS4 := same_l so4 hS
    have dd4 := dd.same so4
    walk_at "gop"
    refine ⟨.inl ⟨rfl, _, SqL.of hd4⟩, ?_⟩
    walk_at "gop"
    intro q hq
    walk_at "gop"
    intro t ht
    have s5 : Same H4 (upd H4 q (.lst xs)) := same_new hq
    have s6 : Same H4 (upd (upd H4 q (.lst xs)) t (.tup [.str "order", .ref q])) := s5.trans (same_new ht)
    have q6 : upd (upd H4 q (.lst xs)) t (.tup [.str "order", .ref q]) q = some (.lst xs) := same_new ht _ _ upd_same
    have t6 : upd (upd H4 q (.lst xs)) t (.tup [.str "order", .ref q]) t = some (.tup [.str "order", .ref q]) := upd_same
    generalize upd (upd H4 q (.lst xs)) t (.tup [.str "order", .ref q]) = H6 at *
    have dz : dv.length ≤ 5000 := by
      have := Paired.length A.dv
      rw [List.length_reverse] at this
      omega
    refine ⟨dl, dv, _, rfl, rfl, s6 _ _ hd4, Evl.sz_lt (by omega), ?_⟩
    have oq : H q = none := by
      cases e : H q with
      | none => rfl
      | some u =>
        by_cases z : q = ol
        · rw [z, o4] at hq; cases hq
        · rw [f4 q u z e] at hq; cases hq
    have nqd : q ≠ dl := fun z => by rw [z, hd4] at hq; cases hq
    have ntd : t ≠ dl := fun z => by
      have := s5 _ _ hd4
      rw [← z, ht] at this
      cases this
    have f7 : ∀ x u, x ≠ ol → x ≠ dl → H x = some u → upd H6 dl (.lst (dv ++ [.ref t])) x = some u := fun x u n1 n2 e => by
      rw [upd_ne n2]
      exact s6 _ _ (f4 x u n1 e)
    have tk7 : TupK H4 (upd H6 dl (.lst (dv ++ [.ref t]))) := (TupK.same s6).trans (tupK_upd (s6 _ _ hd4) no_lst)
    have nfd : ¬ Foot ⟨a1, d1, la, ch, ah, q, lns⟩ dl := fun z => by
      have := nw3 dl z
      rw [A.hd] at this
      cases this
    have nqF : ¬ Foot ⟨a1, d1, la, ch, ah, q, lns⟩ q := fun z => by
      have O := O4 q
      rcases z with z | z | z | z | z
      · have := O.hd
        rw [show (⟨a1, d1, la, ch, ah, q, lns⟩ : OA2).a = q from z.symm, hq] at this
        cases this
      · have := O.hl
        rw [show (⟨a1, d1, la, ch, ah, q, lns⟩ : OA2).ls = q from z.symm, hq] at this
        cases this
      · obtain ⟨cs, this, _⟩ := O.hc
        rw [show (⟨a1, d1, la, ch, ah, q, lns⟩ : OA2).ch = q from z.symm, hq] at this
        cases this
      · obtain ⟨cs, this, _⟩ := O.ha
        rw [show (⟨a1, d1, la, ch, ah, q, lns⟩ : OA2).ah = q from z.symm, hq] at this
        cases this
      · obtain ⟨i, hi⟩ := List.getElem?_of_mem z
        have hj : i < (ls.map LineT.new).length := by
          have h2 : lns.length = (ls.map LineT.new).length := O.len
          rw [← h2]
          exact (List.getElem?_eq_some_iff.mp hi).1
        obtain ⟨dx', this⟩ := O.ln i q _ hi (List.getElem?_eq_getElem hj)
        rw [hq] at this
        cases this
    have O7 : OdAt2 K CL CO (upd H6 dl (.lst (dv ++ [.ref t]))) ⟨a1, d1, la, ch, ah, q, lns⟩ ⟨ls.map LineT.new, 0, []⟩ [] := (O4 q).frame (fun _ z => by cases z) (fun x u hx e => by rw [upd_ne fun z => nfd (by rw [← z]; exact hx)]; exact s6 _ _ e) tk7
    have so : ∀ t ∈ ls, PyData.strOk t.item = true := fun t ht => (lo.2.2 t ht).str
    have A7 := A.more hi.good.ok (H' := upd H6 dl (.lst (dv ++ [.ref t]))) (t := t) (xs := xs) (ls := ls) f7 (by rw [upd_ne A.nol]; exact s6 _ _ o4) upd_same (by rw [upd_ne ntd]; exact t6) (by rw [upd_ne nqd]; exact q6) (flat_tupK tk7 (lines_flat so) dd4) so O7 (fun x hx => by
      rcases hx with z | z
      · exact nw3 x z
      · rw [z]; exact oq) nqF
    have k7 : Keep fp H (upd H6 dl (.lst (dv ++ [.ref t]))) := fun x u e => by
      by_cases z1 : x = ol
      · refine ⟨fun n => absurd (by rw [z1]; exact f2) n, .lst ((os.map fun o => V.ref o.a) ++ [.ref a1]), by rw [z1, upd_ne A.nol]; exact s6 _ _ o4, fun z => ?_⟩
        rw [z1, A.ho] at e
        rw [← Option.some.inj e] at z
        exact z.elim (fun z => absurd z no_lst) fun z => absurd z no_lst
      by_cases z2 : x = dl
      · refine ⟨fun n => absurd (by rw [z2]; exact f3') n, .lst (dv ++ [.ref t]), by rw [z2]; exact upd_same, fun z => ?_⟩
        rw [z2, A.hd] at e
        rw [← Option.some.inj e] at z
        exact z.elim (fun z => absurd z no_lst) fun z => absurd z no_lst
      exact ⟨fun _ => f7 x u z1 z2 e, u, f7 x u z1 z2 e, fun _ => rfl⟩
    walk_at "gop"
    intro r hr
    have s8 : Same (upd H6 dl (.lst (dv ++ [.ref t]))) (upd (upd H6 dl (.lst (dv ++ [.ref t]))) r (.lst [])) := same_new hr
    have okM : ∀ m ∈ stepM M (.ord ls), m.Ok := (step_hist hi.good (A.lM.symm.trans A.lE) (d := .ord ls) trivial ef).2.ok
    have nr : ¬ (fp r ∨ Foot ⟨a1, d1, la, ch, ah, q, lns⟩ r ∨ r = q) := fun z => A7.mt.has r z hr
    refine q0 _ r _ _ ⟨a1, d1, la, ch, ah, q, lns⟩ (k7.trans (.same s8)) (fun x hx => ?_) (A7.stay okM (fun x u _ e => s8 _ _ e) (.same s8)) (k7.none hr) nr upd_same
    rcases hx with z | z
    · exact nw3 x z
    · rw [z]; exact oq
end
section
variable {P : Program} {w : World} {K : PySem.W.Frag} {mg : Str → Option Value} {base : Heap} {CL CO CB : Addr}
def wF : List V := [.str "deliver", .str "back", .str "swap", .str "credit"]
theorem inF_goods {z : Str} (h : GoodsW z) : inV (.str z) wF = true := by
  rcases h with rfl | rfl | rfl | rfl <;> decide +kernel
theorem inF_money {z : Str} (h : MoneyW z) : inV (.str z) wF = false := by
  rcases h with rfl | rfl <;> decide +kernel
theorem inF_move : inV (.str "move") wF = false := by decide +kernel
theorem most_goods {M : List Od} {x : Str} {o l : Int} (gw : GoodsW x) (h1 : inR o M.length = true) (h2 : inR l (ordAt M o).lines.length = true) : mostM x o l M = mostL x (lnAt (ordAt M o) l) := by
  obtain ⟨_, n2, n3, n4⟩ := goods_ne gw
  unfold mostM
  rw [if_neg (by rw [h1]; exact fun z => nomatch z), if_neg n3, if_neg (by simp only [not_or]; exact ⟨n4, n2⟩), if_neg (by rw [h2]; exact fun z => nomatch z)]
theorem most_money {M : List Od} {x : Str} {o l : Int} (h : x = "refund" ∨ x = "move") (h1 : inR o M.length = true) : mostM x o l M = -(ordAt M o).owed := by
  have n3 : ¬ x = "pay" := by rcases h with rfl | rfl <;> decide +kernel
  unfold mostM
  rw [if_neg (by rw [h1]; exact fun z => nomatch z), if_neg n3, if_pos h]
abbrev N_Book__refuse : List Str := ["self", "deed", "word", "amount", "order"]
abbrev P_Book__refuse : List Str := ["self", "deed"]
theorem sc_Book__refuse : FnScope N_Book__refuse P_Book__refuse (defScope s_Book__refuse) := ⟨rfl, rfl, rfl, by decide +kernel, rfl, by decide +kernel, by decide +kernel⟩
def sp_refuse (K : PySem.W.Frag) (CL CO CB : Addr) (cl : Str → Addr) : Sp := fun vs H Q E => ∃ (fp : Addr → Prop) (b : Addr) (v : V) (M : List Od) (ES : List (List Ent)) (past : List (Deed × List Od)) (dx ol dl : Addr) (os : List OA2) (dv : List V) (d : Deed), vs = [.ref b, v] ∧
  ShpAt K CL CO CB fp H b M ES past dx ol dl os dv ∧ (∀ m ∈ M, m.Ok) ∧ Dp K H v (deedD d) ∧ d.Shape ∧ (∀ ls, d ≠ .ord ls) ∧
  (refusalM M d = "" → ∀ H', Same H H' → Q .non H') ∧ (refusalM M d ≠ "" → ∀ H', Same H H' → E (.ref (cl (refusalM M d))) none H')
theorem m_Book__refuse {cl : Str → Addr} {aD aF : Addr} (Z : PF K CL CO CB) (T : Blt mg) (TP : Tups K mg aD aF) (ER : ErrMk K mg cl) (m_Book__found : MCal P w K mg base (L2.CX P w) 1 CB "_found" P_Book__found (sp_found K CL CO CB cl))
    (m_Line_most : MCal P w K mg base CX0 4 CL "most" P_Line_most (sp_Line_most CL)) (m_Order_overpaid : MCal P w K mg base CX0 5 CO "overpaid" P_Order_overpaid (sp_Order_overpaid K CL CO))
    (D : MAt K CB "_refuse" "Book._refuse" s_Book__refuse P_Book__refuse) : MCal P w K mg base (L2.CX P w) 6 CB "_refuse" P_Book__refuse (sp_refuse K CL CO CB cl) := by
  refine mcal_ofX Z.cB D sc_Book__refuse (fun vs H Q E h => ?_) (fun f cdv A outer s H vs Q E hr h => ?_)
  · obtain ⟨fp, b, v, M, ES, past, dx, ol, dl, os, dv, d, rfl, _⟩ := h
    rfl
  · obtain ⟨fp, b, v, M, ES, past, dx, ol, dl, os, dv, d, rfl, A, ok, dd, sh, no, q, qe⟩ := h
    refine ⟨_, (pss_cons (ps_par (i := 2) (j := 3) rfl sc_Book__refuse.nd rfl rfl (by decide) rfl rfl (pa_cons (pe_ix (kx_tup K) (pv 1) pe_int (fun _ _ => rfl)) (pa_cons (pe_ix (kx_tup K) (pv 1) (pe_un un_neg pe_int) (fun _ _ => rfl)) pa_nil)) (by rfl))
      (pss_cons (ps_set (i := 4) sc_Book__refuse.nd rfl (Or.inl rfl) (pe_m m_Book__found (pv 0) (hr.mono (by decide)) (passes_call (takes_of rfl rfl rfl rfl) fun _ _ _ _ z => z) (pa_cons (pe_ix (kx_tup K) (pv 1) pe_int (fun _ _ => rfl)) pa_nil)))
      (Evl.pss_cut (ps_if (pt_cmpR op_eq (pv 2) pe_str (nomark _))
        (pss_cons (ps_expr (pe_m m_Book__found (pv 0) (hr.mono (by decide)) (passes_call (takes_of rfl rfl rfl rfl) fun _ _ _ _ z => z) (pa_cons (pe_ix (kx_tup K) (pv 1) pe_int (fun _ _ => rfl)) pa_nil)))
        (pss_one (ps_if (pt_cmpR op_eq (pe_ix (kx_tup K) (pv 1) pe_int (fun _ _ => rfl)) (pe_ix (kx_tup K) (pv 1) pe_int (fun _ _ => rfl)) (nomark _))
          (pss_one (ps_raise rfl (takes_of rfl rfl rfl rfl) (ER.pmk "SameOrder" (by decide))))
          pss_nil)))
        pss_nil)
      (pss_cons (ps_if (PW.pt (pw_and (pt_cmpR (ko_in K) (pv 2) (pe_glob (v := .ref aF) (by rfl) TP.gF rfl) (by rfl)) (pw_and1 (pt_not (pt_chain op_le op_lt pe_int (pe_ix (kx_tup K) (pv 1) pe_int (fun _ _ => rfl)) (pe_callB (kc_len K) (by rfl) T.m_len PySem.boot_len (pa_cons (pe_fld (pv 4) rfl) pa_nil)))))))
        (pss_one (ps_raise rfl (takes_of rfl rfl rfl rfl) (ER.pmk "NoLine" (by decide))))
        pss_nil)
      (pss_cons (ps_if (pt_cmpR op_lt (pv 3) pe_int (nomark _))
        (pss_one (ps_raise rfl (takes_of rfl rfl rfl rfl) (ER.pmk "NoNumber" (by decide))))
        pss_nil)
      (pss_one (ps_if (pt_cmpR (ko_in K) (pv 2) (pe_glob (v := .ref aF) (by rfl) TP.gF rfl) (by rfl))
        (pss_one (ps_if (pt_cmpR op_gt (pv 3) (pe_m m_Line_most (pe_ix (kx_list K) (pe_fld (pv 4) rfl) (pe_ix (kx_tup K) (pv 1) pe_int (fun _ _ => rfl)) (fun _ _ => rfl)) (hr.mono (by decide)) pass0 (pa_cons (pv 2) pa_nil)) (nomark _))
          (pss_one (ps_raise rfl (takes_of rfl rfl rfl rfl) (ER.pmk "TooMuch" (by decide))))
          pss_nil))
        (pss_one (ps_if (PW.pt (pw_and (pt_cmpR op_ne (pv 2) pe_str (nomark _)) (pw_and1 (pt_cmpR op_gt (pv 3) (pe_m0 m_Order_overpaid (pv 4) (hr.mono (by decide)) pass0) (nomark _)))))
          (pss_one (ps_raise rfl (takes_of rfl rfl rfl rfl) (ER.pmk "TooMuch" (by decide))))
          pss_nil))))))))), ?_⟩
    have hF := TP.dF H
    cases d with
    | ord ls => exact absurd rfl (no ls)
    | goods x o l n =>
      obtain ⟨p, rfl, hp⟩ := deed_goods dd
      have gw : GoodsW x := sh
      obtain ⟨n1, n2, n3, n4⟩ := goods_ne gw
      have eW : decide (V.str x = V.str "move") = false := dec_str_no n2
      have eF := inF_goods gw
      have ef := refusal_goods M x o l n
      have eI : (if (false : Bool) = true then !inV (.str x) wF else inV (.str x) wF) = true := eF
      have hb := A.hb
      walk_at "gop"
      refine ⟨fp, b, M, ES, past, dx, ol, dl, os, dv, o, rfl, A, fun hin oo eo => ?_, fun hno => ?_⟩
      rotate_left
      · rw [if_pos hno] at ef
        rw [ef] at qe
        exact qe (by decide +kernel) H (Same.refl _)
      rw [if_neg (by rw [hin]; exact fun z => nomatch z)] at ef
      obtain ⟨h0, h1⟩ := inR_iff.mp hin
      have em := at_ordAt h0 h1
      have ek : oo.a = oo.a := rfl
      have ee := ents_at h0 h1 (A.lM.symm.trans A.lE)
      have O := A.od _ _ _ _ eo em ee
      have mok := ok _ (List.mem_of_getElem? em)
      have oh := O.hd
      have ol2 := O.hl
      unfold odF at oh
      have zl : ((oo.lns.map V.ref).length : Nat) = (ordAt M o).lines.length := by rw [List.length_map]; exact O.len
      walk_at "gop"
      refine ⟨fun σ H' => H' = H ∧ σ = [some (.ref b), some (.ref p), some (.str x), some (.int n), some (.ref oo.a)], ?_, ?_⟩
      · walk_at "gop"
        first | exact ⟨rfl, rfl⟩ | exact rfl
      rintro σ H' ⟨rfl, rfl⟩
      have line : inR l (ordAt M o).lines.length = false → E (.ref (cl "NoLine")) none H' := fun z => by
        rw [if_pos z] at ef
        rw [ef] at qe
        exact qe (by decide +kernel) H' (Same.refl _)
      walk_at "gop"
      refine ite2 (fun g => ?_) (fun g => ?_)
      rotate_left
      · walk_at "gop"
        exact line (inR_no fun z => g (decide_eq_true z.1))
      have g := of_decide_eq_true g
      walk_at "gop"
      rw [zl]
      refine ite2 (fun g2 => ?_) (fun g2 => ?_)
      rotate_left
      · walk_at "gop"
        exact line (inR_no fun z => g2 (decide_eq_true z.2))
      have g2 := of_decide_eq_true g2
      have hl2 : inR l (ordAt M o).lines.length = true := inR_iff.mpr ⟨g, g2⟩
      rw [if_neg (by rw [hl2]; exact fun z => nomatch z), most_goods gw hin hl2] at ef
      walk_at "gop"
      refine ite2 (fun g3 => ?_) (fun g3 => ?_)
      · have g3 := of_decide_eq_true g3
        rw [if_pos g3] at ef
        rw [ef] at qe
        walk_at "gop"
        exact qe (by decide +kernel) H' (Same.refl _)
      have g3 : ¬ n < 1 := fun z => g3 (decide_eq_true z)
      rw [if_neg g3] at ef
      obtain ⟨x1, dx1, y1, y2, y3, y4⟩ := O.at_ g g2
      walk_at "gop"
      refine ⟨x1, dx1, _, x, rfl, y4, mok.at_ g g2, ?_⟩
      walk_at "gop"
      refine ite2 (fun g4 => ?_) (fun g4 => ?_)
      · have g4 := of_decide_eq_true g4
        rw [if_pos g4] at ef
        rw [ef] at qe
        walk_at "gop"
        exact qe (by decide +kernel) H' (Same.refl _)
      have g4 : ¬ mostL x (lnAt (ordAt M o) l) < n := fun z => g4 (decide_eq_true z)
      rw [if_neg g4] at ef
      walk_at "gop"
      exact q ef H' (Same.refl _)
    | money x o n =>
      obtain ⟨p, rfl, hp⟩ := deed_money dd
      have gw : MoneyW x := sh
      obtain ⟨n1, n2, n3, n4⟩ := money_ne gw
      have eW : decide (V.str x = V.str "move") = false := dec_str_no n2
      have eF := inF_money gw
      have ef := refusal_money M x o n
      have eI : (if (false : Bool) = true then !inV (.str x) wF else inV (.str x) wF) = false := eF
      have hb := A.hb
      walk_at "gop"
      refine ⟨fp, b, M, ES, past, dx, ol, dl, os, dv, o, rfl, A, fun hin oo eo => ?_, fun hno => ?_⟩
      rotate_left
      · rw [if_pos hno] at ef
        rw [ef] at qe
        exact qe (by decide +kernel) H (Same.refl _)
      rw [if_neg (by rw [hin]; exact fun z => nomatch z)] at ef
      obtain ⟨h0, h1⟩ := inR_iff.mp hin
      have em := at_ordAt h0 h1
      have ee := ents_at h0 h1 (A.lM.symm.trans A.lE)
      have O := A.od _ _ _ _ eo em ee
      have mok := ok _ (List.mem_of_getElem? em)
      walk_at "gop"
      refine ⟨fun σ H' => H' = H ∧ σ = [some (.ref b), some (.ref p), some (.str x), some (.int n), some (.ref oo.a)], ?_, ?_⟩
      · walk_at "gop"
        first | exact ⟨rfl, rfl⟩ | exact rfl
      rintro σ H' ⟨rfl, rfl⟩
      walk_at "gop"
      refine ite2 (fun g3 => ?_) (fun g3 => ?_)
      · have g3 := of_decide_eq_true g3
        rw [if_pos g3] at ef
        rw [ef] at qe
        walk_at "gop"
        exact qe (by decide +kernel) H' (Same.refl _)
      have g3 : ¬ n < 1 := fun z => g3 (decide_eq_true z)
      rw [if_neg g3] at ef
      walk_at "gop"
      rcases gw with rfl | rfl
      · rw [if_neg (fun z => z.1 rfl)] at ef
        walk_at "gop"
        exact q ef H' (Same.refl _)
      · rw [most_money (.inl rfl) hin] at ef
        walk_at "gop"
        refine ⟨⟨_, _, _, rfl, O.hd, rfl⟩, ?_⟩
        refine ⟨oo, _, _, rfl, O, mok, fun H2 s2 => ?_⟩
        walk_at "gop"
        refine ite2 (fun g4 => ?_) (fun g4 => ?_)
        · have g4 := of_decide_eq_true g4
          rw [if_pos ⟨by decide +kernel, by split at g4 <;> omega⟩] at ef
          rw [ef] at qe
          walk_at "gop"
          exact qe (by decide +kernel) H2 s2
        have g4 : ¬ (if -(ordAt M o).owed > 0 then -(ordAt M o).owed else 0) < n := fun z => g4 (decide_eq_true z)
        rw [if_neg (fun z => g4 (by split <;> omega))] at ef
        walk_at "gop"
        exact q ef H2 s2
    | move o l n =>
      obtain ⟨p, rfl, hp⟩ := deed_move dd
      have ef := refusal_move M o l n
      have eI : (if (false : Bool) = true then !inV (.str "move") wF else inV (.str "move") wF) = false := inF_move
      have hb := A.hb
      walk_at "gop"
      refine ⟨fp, b, M, ES, past, dx, ol, dl, os, dv, o, rfl, A, fun hin oo eo => ?_, fun hno => ?_⟩
      rotate_left
      · rw [if_pos (.inl hno)] at ef
        rw [ef] at qe
        exact qe (by decide +kernel) H (Same.refl _)
      obtain ⟨h0, h1⟩ := inR_iff.mp hin
      have em := at_ordAt h0 h1
      have ee := ents_at h0 h1 (A.lM.symm.trans A.lE)
      have O := A.od _ _ _ _ eo em ee
      have mok := ok _ (List.mem_of_getElem? em)
      walk_at "gop"
      refine ⟨fun σ H' => H' = H ∧ σ = [some (.ref b), some (.ref p), some (.str "move"), some (.int n), some (.ref oo.a)] ∧ inR l M.length = true ∧ o ≠ l, ?_, ?_⟩
      · walk_at "gop"
        refine ⟨fp, b, M, ES, past, dx, ol, dl, os, dv, l, rfl, A, fun hin2 oo2 eo2 => ?_, fun hno => ?_⟩
        rotate_left
        · rw [if_pos (.inr hno)] at ef
          rw [ef] at qe
          exact qe (by decide +kernel) H (Same.refl _)
        rw [if_neg (by rw [hin, hin2]; exact fun z => by rcases z with z | z <;> cases z)] at ef
        walk_at "gop"
        refine ite2 (fun g => ?_) (fun g => ?_)
        · have g : o = l := V.int.inj (of_decide_eq_true g)
          rw [if_pos g] at ef
          rw [ef] at qe
          walk_at "gop"
          exact qe (by decide +kernel) H (Same.refl _)
        · have g : o ≠ l := fun z => g (decide_eq_true (congrArg V.int z))
          exact ⟨rfl, rfl, hin2, g⟩
      rintro σ H' ⟨rfl, rfl, hin2, ne⟩
      rw [if_neg (by rw [hin, hin2]; exact fun z => by rcases z with z | z <;> cases z), if_neg ne, most_money (.inr rfl) hin] at ef
      walk_at "gop"
      refine ite2 (fun g3 => ?_) (fun g3 => ?_)
      · have g3 := of_decide_eq_true g3
        rw [if_pos g3] at ef
        rw [ef] at qe
        walk_at "gop"
        exact qe (by decide +kernel) H' (Same.refl _)
      have g3 : ¬ n < 1 := fun z => g3 (decide_eq_true z)
      rw [if_neg g3] at ef
      walk_at "gop"
      refine ⟨⟨_, _, _, rfl, O.hd, rfl⟩, ?_⟩
      refine ⟨oo, _, _, rfl, O, mok, fun H2 s2 => ?_⟩
      walk_at "gop"
      refine ite2 (fun g4 => ?_) (fun g4 => ?_)
      · have g4 := of_decide_eq_true g4
        rw [if_pos (by split at g4 <;> omega)] at ef
        rw [ef] at qe
        walk_at "gop"
        exact qe (by decide +kernel) H2 s2
      have g4 : ¬ (if -(ordAt M o).owed > 0 then -(ordAt M o).owed else 0) < n := fun z => g4 (decide_eq_true z)
      rw [if_neg (fun z => g4 (by split <;> omega))] at ef
      walk_at "gop"
      exact q ef H2 s2
end
section
variable {P : Program} {w : World} {K : PySem.W.Frag} {mg : Str → Option Value} {base : Heap} {CL CO CB : Addr}
abbrev N_Book__carry_out : List Str := ["self", "deed", "word", "number", "amount", "order", "changes", "other"]
abbrev P_Book__carry_out : List Str := ["self", "deed"]
theorem sc_Book__carry_out : FnScope N_Book__carry_out P_Book__carry_out (defScope s_Book__carry_out) := ⟨rfl, rfl, rfl, by decide +kernel, rfl, by decide +kernel, by decide +kernel⟩
def sp_carry (K : PySem.W.Frag) (CL CO CB : Addr) : Sp := fun vs H Q _ => ∃ (fp : Addr → Prop) (b : Addr) (v : V) (M : List Od) (ES : List (List Ent)) (past : List (Deed × List Od)) (dx ol dl : Addr) (os : List OA2) (dv : List V) (d : Deed) (n : Nat), vs = [.ref b, v] ∧
  ShpAt K CL CO CB fp H b M ES past dx ol dl os dv ∧ Good M ES n ∧ n ≤ 5000 ∧ Dp K H v (deedD d) ∧ d.Shape ∧ (∀ ls, d ≠ .ord ls) ∧ refusalM M d = "" ∧
  ∀ H' q xs, Keep fp H H' → ShpAt K CL CO CB fp H' b (stepM M d) (stepE M ES d) past dx ol dl os dv → H q = none → ¬ fp q → H' q = some (.lst xs) → DpAll K H' xs ((changesM M d).map chD) → Q (.ref q) H'
theorem ch_dp {H : Hp} {t : Addr} {o c : Int} (h : H t = some (.tup [.int o, .int c])) : Dp K H (.ref t) (chD (o, c)) := .tup (SqT.of h) (.cons (.int _) (.cons (.int _) .nil))
theorem m_Book__carry_out {aD aF : Addr} (Z : PF K CL CO CB) (T : Blt mg) (TP : Tups K mg aD aF) (m_Order_change_line : MCal P w K mg base CX0 5 CO "change_line" P_Order_change_line (sp_Order_change_line K CL CO)) (m_Order_receive : MCal P w K mg base CX0 1 CO "receive" P_Order_receive (sp_Order_receive K CL CO))
    (D : MAt K CB "_carry_out" "Book._carry_out" s_Book__carry_out P_Book__carry_out) : MCal P w K mg base CX0 6 CB "_carry_out" P_Book__carry_out (sp_carry K CL CO CB) := by
  refine mcal_of Z.cB D sc_Book__carry_out (fun vs H Q E h => ?_) (fun f cdv A outer s H vs Q E hr h => ?_)
  · obtain ⟨fp, b, v, M, ES, past, dx, ol, dl, os, dv, d, n, rfl, _⟩ := h
    rfl
  · obtain ⟨fp, b, v, M, ES, past, dx, ol, dl, os, dv, d, nn, rfl, A, gd, nz, dd, sh, no, lg, q⟩ := h
    refine ⟨_, (pss_cons (ps_par3 (i := 2) (j := 3) (l := 4) rfl sc_Book__carry_out.nd rfl rfl rfl (by decide) (by decide) (by decide) rfl rfl rfl (pa_cons (pe_ix (kx_tup K) (pv 1) pe_int (fun _ _ => rfl)) (pa_cons (pe_ix (kx_tup K) (pv 1) pe_int (fun _ _ => rfl)) (pa_cons (pe_ix (kx_tup K) (pv 1) (pe_un un_neg pe_int) (fun _ _ => rfl)) pa_nil))) (by rfl))
      (pss_cons (ps_set (i := 5) sc_Book__carry_out.nd rfl (Or.inl rfl) (pe_ix (kx_list K) (pe_fld (pv 0) rfl) (pv 3) (fun _ _ => rfl)))
      (pss_cons (ps_if (pt_cmpR (ko_in K) (pv 2) (pe_glob (v := .ref aF) (by rfl) TP.gF rfl) (by rfl))
        (pss_one (ps_ret (pe_lst (pa_cons (pe_tup (pa_cons (pv 3) (pa_cons (pe_m m_Order_change_line (pv 5) (hr.mono (by decide)) pass0 (pa_cons (pv 2) (pa_cons (pe_ix (kx_tup K) (pv 1) pe_int (fun _ _ => rfl)) (pa_cons (pv 4) pa_nil)))) pa_nil))) pa_nil))))
        pss_nil)
      (pss_cons (ps_if (pt_cmpR op_eq (pv 2) pe_str (nomark _))
        (pss_one (ps_ret (pe_lst (pa_cons (pe_tup (pa_cons (pv 3) (pa_cons (pe_m m_Order_receive (pv 5) (hr.mono (by decide)) pass0 (pa_cons (pv 2) (pa_cons (pv 4) pa_nil))) pa_nil))) pa_nil))))
        pss_nil)
      (pss_cons (ps_set (i := 6) sc_Book__carry_out.nd rfl (Or.inl rfl) (pe_lst (pa_cons (pe_tup (pa_cons (pv 3) (pa_cons (pe_m m_Order_receive (pv 5) (hr.mono (by decide)) pass0 (pa_cons (pv 2) (pa_cons (pe_un un_neg (pv 4)) pa_nil))) pa_nil))) pa_nil)))
      (Evl.pss_cut (ps_if (pt_cmpR op_eq (pv 2) pe_str (nomark _))
        (pss_cons (ps_set (i := 7) sc_Book__carry_out.nd rfl (Or.inl rfl) (pe_ix (kx_list K) (pe_fld (pv 0) rfl) (pe_ix (kx_tup K) (pv 1) pe_int (fun _ _ => rfl)) (fun _ _ => rfl)))
        (pss_one (ps_expr (pe_bm PySem.F.plainAttrs_list PySem.F.slot_list_append PySem.F.type_list_append mt_append (pv 6) (pa_cons (pe_tup (pa_cons (pe_ix (kx_tup K) (pv 1) pe_int (fun _ _ => rfl)) (pa_cons (pe_m m_Order_receive (pv 7) (hr.mono (by decide)) pass0 (pa_cons (pv 2) (pa_cons (pv 4) pa_nil))) pa_nil))) pa_nil)))))
        pss_nil)
      (pss_one (ps_ret (pv 6))))))))), ?_⟩
    have hF := TP.dF H
    have hb := A.hb
    have ho := A.ho
    have lE := A.lM.symm.trans A.lE
    obtain ⟨f1, f2, f3, f4⟩ := A.fps
    have gst := step_hist gd lE sh (by cases d with | ord ls => exact absurd rfl (no ls) | goods x o l n => exact lg | money x o n => exact lg | move o l n => exact lg)
    have finish : ∀ (H1 : Hp) (k1 : Keep fp H H1) (A1 : ShpAt K CL CO CB fp H1 b (stepM M d) (stepE M ES d) past dx ol dl os dv) (H2 : Hp) (q2 : Addr) (xs : List V), Same H1 H2 → H1 q2 = none → H2 q2 = some (.lst xs) → DpAll K H2 xs ((changesM M d).map chD) → Q (.ref q2) H2 := fun H1 k1 A1 H2 q2 xs s2 hq2 e2 dc =>
      q H2 q2 xs (k1.trans (.same s2)) (A1.stay gst.2.ok (fun x u _ e => s2 x u e) (.same s2)) (k1.none hq2) (fun z => A1.mt.has _ z hq2) e2 dc
    cases d with
    | ord ls => exact absurd rfl (no ls)
    | goods x o l n =>
      obtain ⟨p, rfl, hp⟩ := deed_goods dd
      have gw : GoodsW x := sh
      obtain ⟨⟨h0, h1⟩, ⟨g0, g1⟩, _⟩ := legal_goods lg
      obtain ⟨oo, eo, ea⟩ := os_at h0 (by rw [A.lM]; exact h1)
      have em := at_ordAt h0 h1
      have ee := ents_at h0 h1 lE
      have O := A.od _ _ _ _ eo em ee
      have mo := List.mem_of_getElem? eo
      have mok := gd.ok _ (List.mem_of_getElem? em)
      have rl := gd.rl _ (List.mem_of_getElem? em)
      have el := gd.el _ _ _ em ee
      have eI : (if (false : Bool) = true then !inV (.str x) wF else inV (.str x) wF) = true := inF_goods gw
      obtain ⟨ec, es⟩ := step_goods (x := x) (n := n) h0 h1 g0 g1
      walk_at "gop"
      refine ⟨_, _, _, rfl, ?_⟩
      walk_at "gop"
      refine ⟨⟨_, _, _, rfl, O.hd, rfl⟩, ?_⟩
      walk_at "gop"
      refine ⟨oo, _, _, x, l, n, rfl, O, mok, g0, g1, gw, by omega, by omega, fun H1 k1 O1 => ?_⟩
      have A1 := A.order gd.ok eo k1 O1
      rw [← es] at A1
      walk_at "gop"
      intro t ht
      walk_at "gop"
      intro r hr
      have s2 : Same H1 (upd H1 t (.tup [.int o, .int ((turnL x n (lnAt (ordAt M o) l)).charge - (lnAt (ordAt M o) l).charge)])) := same_new ht
      refine finish H1 (k1.wide (f4 oo mo).1) A1 _ r _ (s2.trans (same_new hr)) (none_back s2 hr) upd_same ?_
      rw [ec]
      exact .cons (ch_dp (same_new hr _ _ upd_same)) .nil
    | money x o n =>
      obtain ⟨p, rfl, hp⟩ := deed_money dd
      have gw : MoneyW x := sh
      obtain ⟨⟨h0, h1⟩, _⟩ := legal_money lg
      obtain ⟨oo, eo, ea⟩ := os_at h0 (by rw [A.lM]; exact h1)
      have em := at_ordAt h0 h1
      have ee := ents_at h0 h1 lE
      have O := A.od _ _ _ _ eo em ee
      have mo := List.mem_of_getElem? eo
      have mok := gd.ok _ (List.mem_of_getElem? em)
      have rl := gd.rl _ (List.mem_of_getElem? em)
      have el := gd.el _ _ _ em ee
      have eI : (if (false : Bool) = true then !inV (.str x) wF else inV (.str x) wF) = false := inF_money gw
      obtain ⟨ec, es⟩ := step_money (x := x) (n := n) h0 h1
      rcases gw with rfl | rfl
      · rw [if_pos rfl] at ec es
        walk_at "gop"
        refine ⟨_, _, _, rfl, ?_⟩
        walk_at "gop"
        refine ⟨⟨_, _, _, rfl, O.hd, rfl⟩, ?_⟩
        walk_at "gop"
        refine ⟨oo, _, _, "pay", n, rfl, O, mok, by omega, by omega, fun H1 k1 O1 => ?_⟩
        have A1 := A.order gd.ok eo k1 O1
        rw [← es] at A1
        walk_at "gop"
        intro t ht
        walk_at "gop"
        intro r hr
        have s2 : Same H1 (upd H1 t (.tup [.int o, .int (-n)])) := same_new ht
        refine finish H1 (k1.wide (f4 oo mo).1) A1 _ r _ (s2.trans (same_new hr)) (none_back s2 hr) upd_same ?_
        rw [ec]
        exact .cons (ch_dp (same_new hr _ _ upd_same)) .nil
      · rw [if_neg (by decide +kernel)] at ec es
        walk_at "gop"
        refine ⟨_, _, _, rfl, ?_⟩
        walk_at "gop"
        refine ⟨⟨_, _, _, rfl, O.hd, rfl⟩, ?_⟩
        walk_at "gop"
        refine ⟨oo, _, _, "refund", -n, rfl, O, mok, by omega, by omega, fun H1 k1 O1 => ?_⟩
        have A1 := A.order gd.ok eo k1 O1
        rw [← es] at A1
        walk_at "gop"
        intro t ht
        walk_at "gop"
        intro r hr
        have s2 : Same H1 (upd H1 t (.tup [.int o, .int (-(-n))])) := same_new ht
        have s3 := s2.trans (same_new (o := .lst [.ref t]) hr)
        have fin := finish H1 (k1.wide (f4 oo mo).1) A1 _ r _ s3 (none_back s2 hr) upd_same (by
          rw [ec]
          exact .cons (ch_dp (same_new hr _ _ upd_same)) .nil)
        walk_at "gop"
        refine ⟨fun σ H2 => σ[6]? = some (some (.ref r)) ∧ H2 = upd (upd H1 t (.tup [.int o, .int (-(-n))])) r (.lst [.ref t]), ?_, ?_⟩
        · walk_at "gop"
          first | exact ⟨rfl, rfl⟩ | exact rfl
        rintro σ H2 ⟨e6, rfl⟩
        exact ⟨_, e6, fin⟩
    | move o l n =>
      obtain ⟨p, rfl, hp⟩ := deed_move dd
      obtain ⟨⟨h0, h1⟩, ⟨g0, g1⟩, ne, _⟩ := legal_move lg
      have nt : o.toNat ≠ l.toNat := by omega
      obtain ⟨oo, eo, ea⟩ := os_at h0 (by rw [A.lM]; exact h1)
      obtain ⟨o2, eo2, ea2⟩ := os_at g0 (by rw [A.lM]; exact g1)
      have em := at_ordAt h0 h1
      have ee := ents_at h0 h1 lE
      have fm := at_ordAt g0 g1
      have fe := ents_at g0 g1 lE
      have O := A.od _ _ _ _ eo em ee
      have mo := List.mem_of_getElem? eo
      have mo2 := List.mem_of_getElem? eo2
      have mok := gd.ok _ (List.mem_of_getElem? em)
      have mok2 := gd.ok _ (List.mem_of_getElem? fm)
      have rl := gd.rl _ (List.mem_of_getElem? em)
      have el := gd.el _ _ _ em ee
      have rl2 := gd.rl _ (List.mem_of_getElem? fm)
      have el2 := gd.el _ _ _ fm fe
      have eI : (if (false : Bool) = true then !inV (.str "move") wF else inV (.str "move") wF) = false := inF_move
      obtain ⟨ec, es⟩ := step_move (n := n) h0 h1 g0 g1 ne
      have ws := word_ok (d := .move o l n) sh
      walk_at "gop"
      refine ⟨_, _, _, rfl, ?_⟩
      walk_at "gop"
      refine ⟨⟨_, _, _, rfl, O.hd, rfl⟩, ?_⟩
      walk_at "gop"
      refine ⟨oo, _, _, "move", -n, rfl, O, mok, by omega, by omega, fun H1 k1 O1 => ?_⟩
      have A1 := A.order gd.ok eo k1 O1
      rw [Int.neg_neg] at A1 O1
      rw [Int.neg_neg]
      have G1 := gd.set (n' := nn + 1) (e := ⟨(ordAt M o).paid, none⟩) em ee ((mok.addPaid (n := -n)).addRow (n := n) ws) (by show (_ ++ [_]).length = _; rw [List.length_append]; rfl) (Nat.le_succ nn) (by omega)
      walk_at "gop"
      intro t ht
      walk_at "gop"
      intro r hr
      have s2 : Same H1 (upd H1 t (.tup [.int o, .int n])) := same_new ht
      have s3 := s2.trans (same_new (o := .lst [.ref t]) hr)
      have t3 := same_new (o := .lst [.ref t]) hr _ _ (upd_same (H := H1) (a := t) (o := .tup [.int o, .int n]))
      have r3 : upd (upd H1 t (.tup [.int o, .int n])) r (.lst [.ref t]) r = some (.lst [.ref t]) := upd_same
      have r1 : H1 r = none := none_back s2 hr
      generalize upd (upd H1 t (.tup [.int o, .int n])) r (.lst [.ref t]) = H3 at *
      have A3 := A1.stay G1.ok (fun x u _ e => s3 x u e) (.same s3)
      have k3 : Keep fp H H3 := (k1.wide (f4 oo mo).1).trans (.same s3)
      have hb3 := A3.hb
      have ho3 := A3.ho
      have O3 := A3.od _ _ _ _ eo2 (set_at nt fm) (set_at nt fe)
      have hp3 := SqT.tupK k3.tupK hp
      have nr : ¬ fp r := fun z => A1.mt.has _ z r1
      walk_at "gop"
      refine ⟨fun σ H4 => ∃ xs, σ[6]? = some (some (.ref r)) ∧ Keep fp H H4 ∧ ShpAt K CL CO CB fp H4 b (stepM M (.move o l n)) (stepE M ES (.move o l n)) past dx ol dl os dv ∧ H4 r = some (.lst xs) ∧ DpAll K H4 xs ((changesM M (.move o l n)).map chD), ?_, ?_⟩
      rotate_left
      · rintro σ H4 ⟨xs, e6, k4, A4, e4, d4⟩
        exact ⟨_, e6, q H4 r xs k4 A4 (k1.none r1) nr e4 d4⟩
      walk_at "gop"
      refine ⟨.inl ⟨rfl, _, SqL.of r3⟩, ?_⟩
      walk_at "gop"
      refine ⟨⟨_, _, _, rfl, O3.hd, rfl⟩, ?_⟩
      walk_at "gop"
      refine ⟨o2, _, _, "move", n, rfl, O3, mok2, by omega, by omega, fun H4 k4 O4 => ?_⟩
      have A4 := A3.order G1.ok eo2 k4 O4
      rw [← es] at A4
      have nf2 : ¬ Foot o2 r := fun z => nr ((f4 o2 mo2).1 r z)
      have r4 := (k4 _ _ r3).1 nf2
      have t4 := k4.tups ⟨_, .inl rfl⟩ t3
      walk_at "gop"
      intro t2 ht2
      have s5 : Same H4 (upd H4 t2 (.tup [.int l, .int (-n)])) := same_new ht2
      have t25 : upd H4 t2 (.tup [.int l, .int (-n)]) t2 = some (.tup [.int l, .int (-n)]) := upd_same
      generalize upd H4 t2 (.tup [.int l, .int (-n)]) = H5 at *
      have r5 := s5 _ _ r4
      have t5 := s5 _ _ t4
      have A5 := A4.stay gst.2.ok (fun x u _ e => s5 x u e) (.same s5)
      refine ⟨r, _, _, rfl, rfl, r5, Evl.sz_lt (by show 1 < 100000; decide), ?_⟩
      have tk6 : TupK H5 (upd H5 r (.lst ([.ref t] ++ [.ref t2]))) := tupK_upd r5 no_lst
      have A6 := A5.stay (H' := upd H5 r (.lst ([.ref t] ++ [.ref t2]))) gst.2.ok (fun x u z e => by rw [upd_ne fun y => nr (by rw [← y]; exact z)]; exact e) tk6
      refine ⟨_, rfl, ?_, A6, upd_same, ?_⟩
      · have k5 : Keep fp H H5 := (k3.trans (k4.wide (f4 o2 mo2).1)).trans (.same s5)
        exact k5.then (Keep.upd1 (F := fun x => x = r) rfl r5 no_lst no_lst) fun x z => .inr (by rw [z]; exact k1.none r1)
      · rw [ec]
        exact .cons (ch_dp (tk6 _ _ ⟨_, .inl rfl⟩ t5)) (.cons (ch_dp (tk6 _ _ ⟨_, .inl rfl⟩ t25)) .nil)
end
section
variable {P : Program} {w : World} {K : PySem.W.Frag} {mg : Str → Option Value} {base : Heap} {CL CO CB : Addr}
abbrev N_Book_do : List Str := ["self", "deed"]
abbrev P_Book_do : List Str := ["self", "deed"]
theorem sc_Book_do : FnScope N_Book_do P_Book_do (defScope s_Book_do) := ⟨rfl, rfl, rfl, by decide +kernel, rfl, by decide +kernel, by decide +kernel⟩
theorem shaped_pair {x : Str} {n : Int} (h : PyData.strOk x = true) : SeqAt.shaped (.tuple [.str x, .int n]) = true := shaped_fl (n := 1) (by show (_ && _) = true; rw [Bool.and_eq_true]; exact ⟨h, rfl⟩)
theorem shaped_deeds : SeqAt.shaped (.tuple deedsT) = true := by decide +kernel
theorem word_parts {d : Deed} (sh : d.Shape) : (∃ ls, d = .ord ls) ∨ ((∀ ls, d ≠ .ord ls) ∧ ∃ rest, deedD d = .tuple (.str d.word :: rest) ∧ partsOf d.word = some (rest.length + 1)) := by
  cases d with
  | ord ls => exact .inl ⟨ls, rfl⟩
  | goods x o l n => exact .inr ⟨(fun _ z => by cases z), _, rfl, by show partsOf x = some 4; rcases sh with rfl | rfl | rfl | rfl <;> decide +kernel⟩
  | money x o n => exact .inr ⟨(fun _ z => by cases z), _, rfl, by show partsOf x = some 3; rcases sh with rfl | rfl <;> decide +kernel⟩
  | move o l n => exact .inr ⟨(fun _ z => by cases z), _, rfl, by show partsOf "move" = some 4; decide +kernel⟩
theorem refuse_no {M : List Od} {d : Deed} (no : ∀ ls, d ≠ .ord ls) : refuseM M d = refusalM M d := by
  cases d with
  | ord ls => exact absurd rfl (no ls)
  | goods x o l n => rfl
  | money x o n => rfl
  | move o l n => rfl
theorem shaped_str {w : Str} {rest : List PyData} (h : SeqAt.shaped (.tuple (.str w :: rest)) = true) : PyData.strOk w = true := by
  have := SeqAt.canLay_of_shaped h
  unfold PyData.canLay0 PyData.canLayAll0 at this
  rw [Bool.and_eq_true] at this
  have := this.1
  unfold PyData.canLay0 at this
  exact this
theorem m_Book_do {cl : Str → Addr} {aD aF : Addr} (Z : PF K CL CO CB) (T : Blt mg) (TP : Tups K mg aD aF) (ER : ErrMk K mg cl)
    (m_Book__begin : MCal P w K mg base (L2.CX P w) 5 CB "_begin" P_Book__begin (sp_begin K CL CO CB cl)) (m_Book__refuse : MCal P w K mg base (L2.CX P w) 6 CB "_refuse" P_Book__refuse (sp_refuse K CL CO CB cl)) (m_Book__carry_out : MCal P w K mg base CX0 6 CB "_carry_out" P_Book__carry_out (sp_carry K CL CO CB))
    (D : MAt K CB "do" "Book.do" s_Book_do P_Book_do) : MCal P w K mg base (L2.CX P w) 7 CB "do" P_Book_do (sp_do (theR K CL CO CB) K cl) := by
  refine mcal_ofX Z.cB D sc_Book_do (fun vs H Q E h => ?_) (fun f cdv A outer s H vs Q E hr h => ?_)
  · obtain ⟨fp, b, S, v, rfl, _⟩ := h
    rfl
  · obtain ⟨fp, b, S, v, rfl, ⟨ES, dx, ol, dl, os, dv, A, hi⟩, pz, h⟩ := h
    refine ⟨_, (pss_cons (ps_if (PW.pt (pw_or (pt_not (pt_truth (pv 1) (by intro _; rfl))) (pw_or1 (pt_cmpR (ko_notInDT K hr.units65) (pe_tup (pa_cons (pe_ix (kx_tup K) (pv 1) pe_int (fun _ _ => rfl)) (pa_cons (pe_callB (kc_len K) (by rfl) T.m_len PySem.boot_len (pa_cons (pv 1) pa_nil)) pa_nil))) (pe_glob (v := .ref aD) (by rfl) TP.gD rfl) (by rfl)))))
        (pss_one (ps_raise rfl (takes_of rfl rfl rfl rfl) (ER.pmk "NoDeed" (by decide))))
        pss_nil)
      (pss_cons (ps_if (pt_cmpR op_eq (pe_ix (kx_tup K) (pv 1) pe_int (fun _ _ => rfl)) pe_str (nomark _))
        (pss_one (ps_ret (pe_m m_Book__begin (pv 0) (hr.mono (by decide)) (passes_call (takes_of rfl rfl rfl rfl) fun _ _ _ _ z => z) (pa_cons (pe_ix (kx_tup K) (pv 1) pe_int (fun _ _ => rfl)) pa_nil))))
        pss_nil)
      (pss_cons (ps_expr (pe_m m_Book__refuse (pv 0) (hr.mono (by decide)) (passes_call (takes_of rfl rfl rfl rfl) fun _ _ _ _ z => z) (pa_cons (pv 1) pa_nil)))
      (pss_cons (ps_expr (pe_bm PySem.F.plainAttrs_list PySem.F.slot_list_append PySem.F.type_list_append mt_append (pe_fld (pv 0) rfl) (pa_cons (pv 1) pa_nil)))
      (pss_one (ps_ret (pe_m m_Book__carry_out (pv 0) (hr.mono (by decide)) pass0 (pa_cons (pv 1) pa_nil)))))))), ?_⟩
    have hb := A.hb
    have hd := A.hd
    have lE := A.lM.symm.trans A.lE
    have gd := hi.good
    have ok := gd.ok
    have stay : ∀ {H'}, Same H H' → ShpAt K CL CO CB fp H' b S.M ES S.past dx ol dl os dv := fun s => A.stay ok (fun x u _ e => s x u e) (.same s)
    have rep : ∀ {H'}, Same H H' → (theR K CL CO CB).Rep fp H' b S := fun s => ⟨ES, dx, ol, dl, os, dv, stay s, hi⟩
    rcases h with ⟨d, dd, sh, sm, q, qe⟩ | ⟨ps, dd, shp, lz, odd, qe⟩
    · have qr : refuseM S.M d ≠ "" → ∀ H', Same H H' → E (.ref (cl (refuseM S.M d))) none H' := fun h H' s => qe h H' fp .refl (.same s) (rep s)
      have ws := word_ok sh
      have fr : refuseM S.M d = "" → ∀ (H' : Hp) (fp' : Addr → Prop) (r : Addr) (xs : List V) (os' : List OA2) (dv' : List V), GrowF fp fp' H → Keep fp H H' → ShpAt K CL CO CB fp' H' b (stepM S.M d) (stepE S.M ES d) ((d, S.M) :: S.past) dx ol dl os' dv' → H r = none → ¬ fp' r → H' r = some (.lst xs) → DpAll K H' xs ((changesM S.M d).map chD) → Q (.ref r) H' := fun lg H' fp' r xs os' dv' g k A' hr nr er dr => by
        obtain ⟨h1, h2⟩ := step_hist gd lE sh lg
        refine q lg H' fp' r xs g k ⟨stepE S.M ES d, dx, ol, dl, os', dv', A', h2, ES, h1, hi⟩ hr nr er (flat_off (fun x z => ?_) (Same.refl _) ch_flat dr)
        rcases z with z | z
        · exact A'.mt x z
        · rw [z]; exact ⟨_, er, no_lst⟩
      rcases word_parts sh with ⟨ls, rfl⟩ | ⟨no, rest, ed, ep⟩
      · obtain ⟨p, y, rfl, hp0, dy⟩ := deed_ord dd
        have hp := same_t off_same hp0
        refine ⟨_, rfl, true, .inr (.inl ⟨_, hp, rfl⟩), ?_⟩
        walk_at "gop"
        intro t ht
        have s1 : Same H (upd H t (.tup [.str "order", .int (([V.str "order", y].length : Nat) : Int)])) := same_new ht
        have t1 : upd H t (.tup [.str "order", .int (([V.str "order", y].length : Nat) : Int)]) t = some (.tup [.str "order", .int (([V.str "order", y].length : Nat) : Int)]) := upd_same
        generalize upd H t (.tup [.str "order", .int (([V.str "order", y].length : Nat) : Int)]) = H1 at *
        walk_at "gop"
        refine ⟨.tuple [.str "order", .int ((2 : Nat) : Int)], deedsT, .tup (SqT.of t1) (.cons (.str _) (.cons (.int _) .nil)), TP.dD _, shaped_pair ws, shaped_deeds, ?_⟩
        rw [deeds_any, show decide (partsOf "order" = some 2) = true from by decide +kernel]
        have hp1 := same_t s1 hp
        have hb1 := s1 _ _ hb
        walk_at "gop"
        obtain ⟨a, xs, rfl, hx, dx2⟩ := dp_list dy
        have so1 := off_mono (fp := fp) s1
        refine ⟨fp, b, a, S.M, ES, S.past, dx, ol, dl, os, dv, xs, ls, rfl, stay s1, hi, pz, same_l so1 hx, dx2.same so1, sm, fun lg H' r os' dv' o k nw A' hr nr er => ?_, fun h H' s2 => qr h H' (s1.trans s2)⟩
        exact fr lg H' _ r [] os' dv' ⟨fun x z => .inl z, fun x z => z.imp id fun z => none_back s1 (nw x z)⟩ ((Keep.same s1).trans k) A' (none_back s1 hr) nr er .nil
      · have er := refuse_no (M := S.M) no
        rw [er] at qr fr
        have flat := deed_flat sh no
        rw [ed] at dd
        obtain ⟨p, xs0, rfl, hp0, hx0⟩ := dp_tuple dd
        rw [← ed] at dd
        obtain ⟨xs, rfl, hxs⟩ : ∃ xs, xs0 = .str d.word :: xs ∧ xs.length = rest.length := by
          cases hx0 with
          | cons h1 h2 => rw [dp_str h1]; exact ⟨_, rfl, h2.length⟩
        have hp := same_t off_same hp0
        have dd0 := dd.same off_same
        have i0 : atI (V.str d.word :: xs) 0 = some (.str d.word) := atI_nat (j := 0) rfl
        refine ⟨_, rfl, true, .inr (.inl ⟨_, hp, rfl⟩), ?_⟩
        walk_at "gop"
        intro t ht
        have s1 : Same H (upd H t (.tup [.str d.word, .int (((V.str d.word :: xs).length : Nat) : Int)])) := same_new ht
        have t1 : upd H t (.tup [.str d.word, .int (((V.str d.word :: xs).length : Nat) : Int)]) t = some (.tup [.str d.word, .int (((V.str d.word :: xs).length : Nat) : Int)]) := upd_same
        generalize upd H t (.tup [.str d.word, .int (((V.str d.word :: xs).length : Nat) : Int)]) = H1 at *
        walk_at "gop"
        refine ⟨.tuple [.str d.word, .int (((V.str d.word :: xs).length : Nat) : Int)], deedsT, .tup (SqT.of t1) (.cons (.str _) (.cons (.int _) .nil)), TP.dD _, shaped_pair ws, shaped_deeds, ?_⟩
        rw [deeds_any, ep, show decide (some (rest.length + 1) = some (V.str d.word :: xs).length) = true from decide_eq_true (by rw [List.length_cons, hxs])]
        have hp1 := same_t s1 hp
        have hb1 := s1 _ _ hb
        have nW : decide (V.str d.word = V.str "order") = false := dec_str_no (by
          obtain ⟨_, _, _, _, _, h, _⟩ := deed_gen dd0 sh no
          exact h)
        walk_at "gop"
        refine ⟨fp, b, .ref p, S.M, ES, S.past, dx, ol, dl, os, dv, d, rfl, stay s1, ok, dd0.same s1, sh, no, fun lg H2 s2 => ?_, fun h H' s2 => qr h H' (s1.trans s2)⟩
        have s12 := s1.trans s2
        have A2 := stay s12
        have hb2 := A2.hb
        have hd2 := A2.hd
        walk_at "gop"
        refine ⟨.inl ⟨rfl, _, SqL.of hd2⟩, ?_⟩
        walk_at "gop"
        have dz : dv.length ≤ 5000 := by
          have := Paired.length A.dv
          rw [List.length_reverse] at this
          omega
        refine ⟨dl, dv, _, rfl, rfl, hd2, Evl.sz_lt (by omega), ?_⟩
        have A3 := A2.deed ok (v := .ref p) (d := d) (M0 := S.M) ⟨sh, .inr ⟨no, dd0.same s12⟩⟩
        have k3 : Keep fp H (upd H2 dl (.lst (dv ++ [.ref p]))) := (Keep.same s12).trans (Keep.upd1 A.fps.2.2.1 hd2 no_lst no_lst)
        generalize upd H2 dl (.lst (dv ++ [.ref p])) = H3 at *
        have hb3 := A3.hb
        walk_at "gop"
        refine ⟨fp, b, .ref p, S.M, ES, _, dx, ol, dl, os, _, d, S.past.length, rfl, A3, gd, pz, flat.tupK k3.tupK dd0, sh, no, lg, fun H' r ys k A' hr nr er dr => ?_⟩
        exact fr lg H' fp r ys _ _ .refl (k3.trans k) A' (k3.none hr) nr er dr
    · obtain ⟨p, xs, rfl, hp0, hx⟩ := dp_tuple dd
      have hp := same_t off_same hp0
      have qr : ∀ H', Same H H' → E (.ref (cl "NoDeed")) none H' := fun H' s => qe H' fp .refl (.same s) (rep s)
      rcases odd with rfl | ⟨z, rest, rfl, np⟩
      · cases hx
        refine ⟨_, rfl, false, .inr (.inl ⟨_, hp, rfl⟩), ?_⟩
        walk_at "gop"
        exact qr H (Same.refl _)
      · obtain ⟨ys, rfl, hl⟩ : ∃ ys, xs = .str z :: ys ∧ ys.length = rest.length := by
          cases hx with
          | cons h1 h2 => rw [dp_str h1]; exact ⟨_, rfl, h2.length⟩
        have ws := shaped_str shp
        have i0 : atI (V.str z :: ys) 0 = some (.str z) := atI_nat (j := 0) rfl
        refine ⟨_, rfl, true, .inr (.inl ⟨_, hp, rfl⟩), ?_⟩
        walk_at "gop"
        intro t ht
        have s1 : Same H (upd H t (.tup [.str z, .int (((V.str z :: ys).length : Nat) : Int)])) := same_new ht
        have t1 : upd H t (.tup [.str z, .int (((V.str z :: ys).length : Nat) : Int)]) t = some (.tup [.str z, .int (((V.str z :: ys).length : Nat) : Int)]) := upd_same
        generalize upd H t (.tup [.str z, .int (((V.str z :: ys).length : Nat) : Int)]) = H1 at *
        walk_at "gop"
        refine ⟨.tuple [.str z, .int (((V.str z :: ys).length : Nat) : Int)], deedsT, .tup (SqT.of t1) (.cons (.str _) (.cons (.int _) .nil)), TP.dD _, shaped_pair ws, shaped_deeds, ?_⟩
        rw [deeds_any, decide_eq_false (by rw [List.length_cons, hl]; exact np)]
        walk_at "gop"
        exact qr H1 s1
end
section
variable {P : Program} {w : World} {K : PySem.W.Frag} {mg : Str → Option Value} {base : Heap} {CL CO CB : Addr}
theorem in_no {n : Int} {k : Nat} (h : inR n k = true) : 0 ≤ n ∧ n < (k : Int) := inR_iff.mp h
/-- what is asked of an order -/
theorem BookRep.ask {fp : Addr → Prop} {H : Hp} {b : Addr} {S : BS} (r : (theR K CL CO CB).Rep fp H b S) {n : Int} (h : inR n S.M.length = true) {ES : List (List Ent)} {dx ol dl : Addr} {os : List OA2} {dv : List V} (A : ShpAt K CL CO CB fp H b S.M ES S.past dx ol dl os dv) {o : OA2} (eo : os[n.toNat]? = some o) :
    ∃ es, OdAt2 K CL CO H o (ordAt S.M n) es := by
  obtain ⟨h0, h1⟩ := inR_iff.mp h
  have em := at_ordAt h0 h1
  have ee := ents_at h0 h1 (A.lM.symm.trans A.lE)
  exact ⟨_, A.od _ _ _ _ eo em ee⟩
end
section
variable {P : Program} {w : World} {K : PySem.W.Frag} {mg : Str → Option Value} {base : Heap} {CL CO CB : Addr}
abbrev N_Book_orders : List Str := ["self"]
abbrev P_Book_orders : List Str := ["self"]
theorem sc_Book_orders : FnScope N_Book_orders P_Book_orders (defScope s_Book_orders) := ⟨rfl, rfl, rfl, by decide +kernel, rfl, by decide +kernel, by decide +kernel⟩
theorem B_orders (Z : PF K CL CO CB) (T : Blt mg) (D : MAt K CB "orders" "Book.orders" s_Book_orders P_Book_orders) : BCal P w K mg base 1 CB "orders" P_Book_orders (sp_orders (theR K CL CO CB)) := by
  refine (mcal_ofX Z.cB D sc_Book_orders (fun vs H Q E h => ?_) (fun f cdv A outer s H vs Q E hr h => ?_)).bcal (by decide)
  · obtain ⟨fp, b, S, rfl, _⟩ := h
    rfl
  · obtain ⟨fp, b, S, rfl, r, q⟩ := h
    refine ⟨_, (pss_one (ps_ret (pe_callB (kc_len K) (by rfl) T.m_len PySem.boot_len (pa_cons (pe_fld (pv 0) rfl) pa_nil)))), ?_⟩
    obtain ⟨ES, dx, ol, dl, os, dv, A, hi⟩ := r
    have hb := A.hb
    have ho := A.ho
    have zl : ((os.map fun o => V.ref o.a).length : Nat) = S.M.length := by rw [List.length_map]; exact A.lM
    walk_at "gop"
    rw [zl]
    exact q H fp .refl (.refl H) ⟨ES, dx, ol, dl, os, dv, A, hi⟩
end
section
variable {P : Program} {w : World} {K : PySem.W.Frag} {mg : Str → Option Value} {base : Heap} {CL CO CB : Addr}
abbrev N_Book_owed : List Str := ["self", "order"]
abbrev P_Book_owed : List Str := ["self", "order"]
theorem sc_Book_owed : FnScope N_Book_owed P_Book_owed (defScope s_Book_owed) := ⟨rfl, rfl, rfl, by decide +kernel, rfl, by decide +kernel, by decide +kernel⟩
theorem B_owed {cl : Str → Addr} (Z : PF K CL CO CB) (T : Blt mg) (m_Book__found : MCal P w K mg base (L2.CX P w) 1 CB "_found" P_Book__found (sp_found K CL CO CB cl)) (m_Order_owed : MCal P w K mg base CX0 4 CO "owed" P_Order_owed (sp_Order_owed K CL CO))
    (D : MAt K CB "owed" "Book.owed" s_Book_owed P_Book_owed) : BCal P w K mg base 5 CB "owed" P_Book_owed (sp_owed (theR K CL CO CB) cl) := by
  refine (mcal_ofX Z.cB D sc_Book_owed (fun vs H Q E h => ?_) (fun f cdv A outer s H vs Q E hr h => ?_)).bcal (by decide)
  · obtain ⟨fp, b, S, n, rfl, _⟩ := h
    rfl
  · obtain ⟨fp, b, S, n, rfl, r, q, qe⟩ := h
    refine ⟨_, (pss_one (ps_ret (pe_m0 m_Order_owed (pe_m m_Book__found (pv 0) (hr.mono (by decide)) (passes_call (takes_of rfl rfl rfl rfl) fun _ _ _ _ z => z) (pa_cons (pv 1) pa_nil)) (hr.mono (by decide)) pass0))), ?_⟩
    obtain ⟨ES, dx, ol, dl, os, dv, A, hi⟩ := id r
    have hb := A.hb
    walk_at "gop"
    refine ⟨fp, b, S.M, ES, S.past, dx, ol, dl, os, dv, n, rfl, A, fun hin o eo => ?_, fun hno => qe hno H fp .refl (.refl H) r⟩
    obtain ⟨es, O⟩ := BookRep.ask r hin A eo
    have ok := hi.good.ok _ (List.mem_of_getElem? (at_ordAt (in_no hin).1 (in_no hin).2))
    refine ⟨⟨_, _, _, rfl, O.hd, rfl⟩, ?_⟩
    walk_at "gop"
    refine ⟨o, _, es, rfl, O, ok, fun H1 s1 => ?_⟩
    exact q hin H1 fp .refl (.same s1) (BRep.same r s1)
end
section
variable {P : Program} {w : World} {K : PySem.W.Frag} {mg : Str → Option Value} {base : Heap} {CL CO CB : Addr}
abbrev N_Book_paid : List Str := ["self", "order"]
abbrev P_Book_paid : List Str := ["self", "order"]
theorem sc_Book_paid : FnScope N_Book_paid P_Book_paid (defScope s_Book_paid) := ⟨rfl, rfl, rfl, by decide +kernel, rfl, by decide +kernel, by decide +kernel⟩
theorem B_paid {cl : Str → Addr} (Z : PF K CL CO CB) (T : Blt mg) (m_Book__found : MCal P w K mg base (L2.CX P w) 1 CB "_found" P_Book__found (sp_found K CL CO CB cl))
    (D : MAt K CB "paid" "Book.paid" s_Book_paid P_Book_paid) : BCal P w K mg base 2 CB "paid" P_Book_paid (sp_paid (theR K CL CO CB) cl) := by
  refine (mcal_ofX Z.cB D sc_Book_paid (fun vs H Q E h => ?_) (fun f cdv A outer s H vs Q E hr h => ?_)).bcal (by decide)
  · obtain ⟨fp, b, S, n, rfl, _⟩ := h
    rfl
  · obtain ⟨fp, b, S, n, rfl, r, q, qe⟩ := h
    refine ⟨_, (pss_one (ps_ret (pe_fld (pe_m m_Book__found (pv 0) (hr.mono (by decide)) (passes_call (takes_of rfl rfl rfl rfl) fun _ _ _ _ z => z) (pa_cons (pv 1) pa_nil)) rfl))), ?_⟩
    obtain ⟨ES, dx, ol, dl, os, dv, A, hi⟩ := id r
    have hb := A.hb
    walk_at "gop"
    refine ⟨fp, b, S.M, ES, S.past, dx, ol, dl, os, dv, n, rfl, A, fun hin o eo => ?_, fun hno => qe hno H fp .refl (.refl H) r⟩
    obtain ⟨es, O⟩ := BookRep.ask r hin A eo
    have oh := O.hd
    unfold odF at oh
    walk_at "gop"
    exact q hin H fp .refl (.refl H) r
end
section
variable {P : Program} {w : World} {K : PySem.W.Frag} {mg : Str → Option Value} {base : Heap} {CL CO CB : Addr}
abbrev N_Line_told : List Str := ["self"]
abbrev P_Line_told : List Str := ["self"]
theorem sc_Line_told : FnScope N_Line_told P_Line_told (defScope s_Line_told) := ⟨rfl, rfl, rfl, by decide +kernel, rfl, by decide +kernel, by decide +kernel⟩
def sp_Line_told (CL : Addr) : Sp := fun vs H Q _ => ∃ (x dx : Addr) (l : Ln), vs = [.ref x] ∧ H x = some (.ins CL dx (lnF l)) ∧ ∀ t, H t = none → Q (.ref t) (upd H t (.tup [.str l.item, .int l.pieces, .int l.sent, .int l.home, .int l.again, .int l.credited]))
theorem m_Line_told (Z : PF K CL CO CB) (D : MAt K CL "told" "Line.told" s_Line_told P_Line_told) : MCal P w K mg base CX0 1 CL "told" P_Line_told (sp_Line_told CL) := by
  refine mcal_of Z.cL D sc_Line_told (fun vs H Q E h => ?_) (fun f cdv A outer s H vs Q E hr h => ?_)
  · obtain ⟨x, dx, l, rfl, _⟩ := h
    rfl
  · obtain ⟨x, dx, l, rfl, h0, q⟩ := h
    refine ⟨_, (pss_one (ps_ret (pe_tup (pa_cons (pe_fld (pv 0) rfl) (pa_cons (pe_fld (pv 0) rfl) (pa_cons (pe_fld (pv 0) rfl) (pa_cons (pe_fld (pv 0) rfl) (pa_cons (pe_fld (pv 0) rfl) (pa_cons (pe_fld (pv 0) rfl) pa_nil))))))))), ?_⟩
    walk_at "gop"
    exact q
abbrev N_Book_told : List Str := ["self", "order", "line"]
abbrev P_Book_told : List Str := ["self", "order"]
theorem sc_Book_told : FnScope N_Book_told P_Book_told (defScope s_Book_told) := ⟨rfl, rfl, rfl, by decide +kernel, rfl, by decide +kernel, by decide +kernel⟩
theorem B_told {cl : Str → Addr} (Z : PF K CL CO CB) (T : Blt mg) (m_Book__found : MCal P w K mg base (L2.CX P w) 1 CB "_found" P_Book__found (sp_found K CL CO CB cl)) (m_Line_told : MCal P w K mg base CX0 1 CL "told" P_Line_told (sp_Line_told CL))
    (D : MAt K CB "told" "Book.told" s_Book_told P_Book_told) : BCal P w K mg base 2 CB "told" P_Book_told (sp_told (theR K CL CO CB) K cl) := by
  refine (mcal_ofX Z.cB D sc_Book_told (fun vs H Q E h => ?_) (fun f cdv A outer s H vs Q E hr h => ?_)).bcal (by decide)
  · obtain ⟨fp, b, S, n, rfl, _⟩ := h
    rfl
  · obtain ⟨fp, b, S, n, rfl, r, pz, q, qe⟩ := h
    refine ⟨_, (pss_one (ps_ret (pe_lc (own := [("line", 2)]) (g := gName 2) (tt := tYes) rfl sc_Book_told.nd (ki_list K (pe_fld (pe_m m_Book__found (pv 0) (hr.mono (by decide)) (passes_call (takes_of rfl rfl rfl rfl) fun _ _ _ _ z => z) (pa_cons (pv 1) pa_nil)) rfl)) (blkOk_by (N := N_Book_told) (sc := defScope s_Book_told) (by decide +kernel)) (fun _ _ _ _ _ => pg_name (i := 2) sc_Book_told.nd rfl (Or.inl rfl)) (fun _ _ _ _ _ => pts_nil) (fun _ _ _ _ _ => (pe_m0 m_Line_told (pv 2) (hr.mono (by decide)) pass0))))), ?_⟩
    obtain ⟨ES, dx, ol, dl, os, dv, A, hi⟩ := id r
    have hb := A.hb
    walk_at "gop"
    refine ⟨fp, b, S.M, ES, S.past, dx, ol, dl, os, dv, n, rfl, A, fun hin o eo => ?_, fun hno => qe hno H fp .refl (.refl H) r⟩
    obtain ⟨es, O⟩ := BookRep.ask r hin A eo
    have ok := hi.good.ok _ (List.mem_of_getElem? (at_ordAt (in_no hin).1 (in_no hin).2))
    have oh := O.hd
    unfold odF at oh
    walk_at "gop"
    refine ⟨⟨_, SqL.of O.hl⟩, fun D hD => ?_⟩
    have hf := A.mt.has
    refine lcD_list (K := K) (fp := fp) ((ordAt S.M n).lines.map toldD) (by simpa using O.len) (by have := ok.le; simp; omega) (SqL.of O.hl) hD hf (fun i x d H8 R hx hd s8 hf8 k => ?_) (fun H8 ys s8 hd8 r8 _ => ?_)
    · rw [List.getElem?_map] at hx hd
      cases e : (ordAt S.M n).lines[i]? with
      | none => rw [e] at hd; cases hd
      | some l =>
        rw [e] at hd
        have hd := Option.some.inj hd
        subst hd
        cases e2 : o.lns[i]? with
        | none => rw [e2] at hx; cases hx
        | some y =>
          rw [e2] at hx
          have hx := Option.some.inj hx
          subst hx
          obtain ⟨dx', e3⟩ := O.ln i y l e2 e
          have hl := s8 _ _ e3
          walk_at "gop"
          refine ⟨y, dx', l, rfl, hl, fun t ht => ?_⟩
          refine k _ _ (same_new ht) ?_
          exact dp_tup_new hf8 ht (.cons (.str _) (.cons (.int _) (.cons (.int _) (.cons (.int _) (.cons (.int _) (.cons (.int _) .nil))))))
    · exact q hin H8 fp D ys .refl (.same s8) (BRep.same r s8) hD (fun z => hf _ z hD) hd8 r8
end
section
variable {P : Program} {w : World} {K : PySem.W.Frag} {mg : Str → Option Value} {base : Heap} {CL CO CB : Addr}
abbrev N_Book_rows : List Str := ["self", "order"]
abbrev P_Book_rows : List Str := ["self", "order"]
theorem sc_Book_rows : FnScope N_Book_rows P_Book_rows (defScope s_Book_rows) := ⟨rfl, rfl, rfl, by decide +kernel, rfl, by decide +kernel, by decide +kernel⟩
theorem B_rows {cl : Str → Addr} (Z : PF K CL CO CB) (T : Blt mg) (m_Book__found : MCal P w K mg base (L2.CX P w) 1 CB "_found" P_Book__found (sp_found K CL CO CB cl))
    (D : MAt K CB "rows" "Book.rows" s_Book_rows P_Book_rows) : BCal P w K mg base 2 CB "rows" P_Book_rows (sp_rows (theR K CL CO CB) K cl) := by
  refine (mcal_ofX Z.cB D sc_Book_rows (fun vs H Q E h => ?_) (fun f cdv A outer s H vs Q E hr h => ?_)).bcal (by decide)
  · obtain ⟨fp, b, S, n, rfl, _⟩ := h
    rfl
  · obtain ⟨fp, b, S, n, rfl, r, pz, q, qe⟩ := h
    refine ⟨_, (pss_one (ps_ret (pe_callTy (kc_list K) (by rfl) T.m_list PyProof.Rows.boot_list (pa_cons (pe_fld (pe_m m_Book__found (pv 0) (hr.mono (by decide)) (passes_call (takes_of rfl rfl rfl rfl) fun _ _ _ _ z => z) (pa_cons (pv 1) pa_nil)) rfl) pa_nil)))), ?_⟩
    obtain ⟨ES, dx, ol, dl, os, dv, A, hi⟩ := id r
    have hb := A.hb
    walk_at "gop"
    refine ⟨fp, b, S.M, ES, S.past, dx, ol, dl, os, dv, n, rfl, A, fun hin o eo => ?_, fun hno => qe hno H fp .refl (.refl H) r⟩
    obtain ⟨es, O⟩ := BookRep.ask r hin A eo
    have ok := hi.good.ok _ (List.mem_of_getElem? (at_ordAt (in_no hin).1 (in_no hin).2))
    have oh := O.hd
    unfold odF at oh
    obtain ⟨cs, c1, c2⟩ := O.hc
    walk_at "gop"
    intro l hl
    have s1 : Same H (upd H l (.lst cs)) := same_new hl
    have r1 := BRep.same r s1
    have nl : ¬ fp l := fun z => A.mt.has l z hl
    refine q hin _ fp l cs .refl (.same s1) r1 hl nl upd_same (flat_off (fun x z => ?_) s1 (rows_flat ok.rw) c2)
    rcases z with z | z
    · exact (theR K CL CO CB).mt r1 x z
    · rw [z]; exact ⟨_, upd_same, no_lst⟩
end
section
variable {P : Program} {w : World} {K : PySem.W.Frag} {mg : Str → Option Value} {base : Heap} {CL CO CB : Addr}
abbrev N_Line_put_back : List Str := ["self", "numbers"]
abbrev P_Line_put_back : List Str := ["self", "numbers"]
theorem sc_Line_put_back : FnScope N_Line_put_back P_Line_put_back (defScope s_Line_put_back) := ⟨rfl, rfl, rfl, by decide +kernel, rfl, by decide +kernel, by decide +kernel⟩
def sp_Line_put_back (K : PySem.W.Frag) (CL : Addr) : Sp := fun vs H Q _ => ∃ (x dx u : Addr) (l : Ln) (s h a c : Int), vs = [.ref x, .ref u] ∧ H x = some (.ins CL dx (lnF l)) ∧ SqT K H u [.int s, .int h, .int a, .int c] ∧ Q .non (upd H x (.ins CL dx (lnF { l with sent := s, home := h, again := a, credited := c })))
theorem m_Line_put_back (Z : PF K CL CO CB) (D : MAt K CL "put_back" "Line.put_back" s_Line_put_back P_Line_put_back) : MCal P w K mg base CX0 1 CL "put_back" P_Line_put_back (sp_Line_put_back K CL) := by
  refine mcal_of Z.cL D sc_Line_put_back (fun vs H Q E h => ?_) (fun f cdv A outer s H vs Q E hr h => ?_)
  · obtain ⟨x, dx, u, l, s, h, a, c, rfl, _⟩ := h
    rfl
  · obtain ⟨x, dx, u, l, s, h, a, c, rfl, h0, hu, q⟩ := h
    refine ⟨_, (pss_one (ps_asg (pv 1) (pg_tup rfl (pgs_cons (pg_fld (pv 0)) (pgs_cons (pg_fld (pv 0)) (pgs_cons (pg_fld (pv 0)) (pgs_cons (pg_fld (pv 0)) pgs_nil))))))), ?_⟩
    walk_at "gop"
    refine ⟨u, _, rfl, hu, rfl, _, _, rfl, _, rfl, x, CL, dx, _, rfl, h0, Z.cL, Z.nL _ (by decide), lt1000, ?_⟩
    refine ⟨_, _, rfl, _, rfl, x, CL, dx, _, rfl, upd_same, Z.cL, Z.nL _ (by decide), lt1000, ?_⟩
    rw [upd_upd]
    refine ⟨_, _, rfl, _, rfl, x, CL, dx, _, rfl, upd_same, Z.cL, Z.nL _ (by decide), lt1000, ?_⟩
    rw [upd_upd]
    refine ⟨_, _, rfl, _, rfl, x, CL, dx, _, rfl, upd_same, Z.cL, Z.nL _ (by decide), lt1000, ?_⟩
    rw [upd_upd]
    exact ⟨rfl, q⟩
theorem dpAll_drop {H : Hp} : ∀ {xs : List V} {ds : List PyData}, DpAll K H xs ds → DpAll K H xs.dropLast ds.dropLast
  | _, _, .nil => .nil
  | _, _, .cons _ .nil => .nil
  | _, _, .cons h (.cons h2 r) => .cons h (dpAll_drop (.cons h2 r))
theorem paired_last {α β : Type} {R : α → β → Prop} : ∀ {ys : List β} {y : β} {xs : List α}, Paired R xs (ys ++ [y]) → ∃ xs' x, xs = xs' ++ [x] ∧ Paired R xs' ys ∧ R x y
  | [], y, _, .cons h .nil => ⟨[], _, rfl, .nil, h⟩
  | _ :: ys, y, _, .cons h r => by
    obtain ⟨xs', x, rfl, h1, h2⟩ := paired_last (ys := ys) r
    exact ⟨_ :: xs', x, rfl, .cons h h1, h2⟩
theorem last_get {α : Type} {xs : List α} {x : α} : (xs ++ [x])[(xs ++ [x]).length - 1]? = some x := by
  rw [List.length_append, List.length_singleton, Nat.add_sub_cancel, List.getElem?_append_right (Nat.le_refl _), Nat.sub_self]; rfl
abbrev N_Order_take_back : List Str := ["self", "line", "numbers"]
abbrev P_Order_take_back : List Str := ["self"]
theorem sc_Order_take_back : FnScope N_Order_take_back P_Order_take_back (defScope s_Order_take_back) := ⟨rfl, rfl, rfl, by decide +kernel, rfl, by decide +kernel, by decide +kernel⟩
def sp_Order_take_back (K : PySem.W.Frag) (CL CO : Addr) : Sp := fun vs H Q _ => ∃ (o : OA2) (m : Od) (es : List Ent) (e : Ent), vs = [.ref o.a] ∧ OdAt2 K CL CO H o m (es ++ [e]) ∧ m.Ok ∧ (es ++ [e]).length = m.rows.length ∧
  ∀ H', Keep (Foot o) H H' → OdAt2 K CL CO H' o (backM m e) es → Q .non H'
theorem m_Order_take_back (Z : PF K CL CO CB) (T : Blt mg) (m_Line_put_back : MCal P w K mg base CX0 1 CL "put_back" P_Line_put_back (sp_Line_put_back K CL)) (D : MAt K CO "take_back" "Order.take_back" s_Order_take_back P_Order_take_back) : MCal P w K mg base CX0 2 CO "take_back" P_Order_take_back (sp_Order_take_back K CL CO) := by
  refine mcal_of Z.cO D sc_Order_take_back (fun vs H Q E h => ?_) (fun f cdv A outer s H vs Q E hr h => ?_)
  · obtain ⟨o, m, es, e, rfl, _⟩ := h
    rfl
  · obtain ⟨o, m, es, e, rfl, O, ok, rz, q⟩ := h
    refine ⟨_, (pss_cons (ps_expr (pe_bm0 PySem.F.plainAttrs_list PySem.F.slot_list_pop PySem.F.type_list_pop mt_pop (pe_fld (pv 0) rfl)))
      (pss_cons (ps_asg (pe_bm0 PySem.F.plainAttrs_list PySem.F.slot_list_pop PySem.F.type_list_pop mt_pop (pe_fld (pv 0) rfl)) (pg_tup rfl (pgs_cons (pg_fld (pv 0)) (pgs_cons (pg_name (i := 1) sc_Order_take_back.nd rfl (Or.inl rfl)) (pgs_cons (pg_name (i := 2) sc_Order_take_back.nd rfl (Or.inl rfl)) pgs_nil)))))
      (pss_one (ps_if (pt_cmpR op_notN (pv 1) pe_non (nomark _))
        (pss_one (ps_expr (pe_m m_Line_put_back (pv 1) (hr.mono (by decide)) pass0 (pa_cons (pv 2) pa_nil))))
        pss_nil)))), ?_⟩
    have oh := O.hd
    unfold odF at oh
    obtain ⟨cs, c1, c2⟩ := O.hc
    have lc := c2.length
    rw [List.length_map] at lc
    rw [List.length_append, List.length_singleton] at rz
    obtain ⟨cs', c, rfl⟩ : ∃ cs' c, cs = cs' ++ [c] := by
      refine ⟨cs.dropLast, cs.getLast (fun z => ?_), (List.dropLast_concat_getLast _).symm⟩
      rw [z] at lc
      simp only [List.length_nil] at lc
      omega
    walk_at "gop"
    refine ⟨.inl ⟨rfl, _, SqL.of c1⟩, ?_⟩
    walk_at "gop"
    refine ⟨o.ch, _, c, rfl, rfl, c1, last_get, ?_⟩
    rw [List.dropLast_concat]
    have O2 : OdAt2 K CL CO (upd H o.ch (.lst cs')) o { m with rows := m.rows.dropLast } (es ++ [e]) := O.chg ok.rw fun H' tk => by
      have := dpAll_drop (flat_tupK tk (rows_flat ok.rw) c2)
      rw [List.dropLast_concat, ← List.map_dropLast] at this
      exact this
    have k2 : Keep (Foot o) H (upd H o.ch (.lst cs')) := Keep.upd1 (.inr (.inr (.inl rfl))) c1 no_lst no_lst
    have rw2 : ∀ r ∈ m.rows.dropLast, PyData.strOk r.1 = true := fun r hr => ok.rw r (List.dropLast_subset _ hr)
    generalize upd H o.ch (.lst cs') = H2 at *
    have oh2 := O2.hd
    unfold odF at oh2
    obtain ⟨as, a1, a2⟩ := O2.ha
    obtain ⟨as', v, rfl, a3, a4⟩ := paired_last a2
    walk_at "gop"
    refine ⟨.inl ⟨rfl, _, SqL.of a1⟩, ?_⟩
    walk_at "gop"
    refine ⟨o.ah, _, v, rfl, rfl, a1, last_get, ?_⟩
    rw [List.dropLast_concat]
    have O3 : OdAt2 K CL CO (upd H2 o.ah (.lst as')) o { m with rows := m.rows.dropLast } es := O2.ahd rw2 fun H' tk => Paired.imp (fun _ _ h => h.tupK tk) a3
    have tk3 : TupK H2 (upd H2 o.ah (.lst as')) := tupK_upd a1 no_lst
    have a5 := a4.tupK tk3
    have k3 : Keep (Foot o) H (upd H2 o.ah (.lst as')) := k2.trans (Keep.upd1 (.inr (.inr (.inr (.inl rfl)))) a1 no_lst no_lst)
    generalize upd H2 o.ah (.lst as') = H3 at *
    obtain ⟨t, rfl, ht⟩ := a5
    have oh3 := O3.hd
    have O4 : OdAt2 K CL CO (upd H3 o.a (.ins CO o.dx (odF o e.rc))) o { m with rows := m.rows.dropLast, paid := e.rc } es := O3.setPaid rw2
    have k4 : Keep (Foot o) H (upd H3 o.a (.ins CO o.dx (odF o e.rc))) := k3.trans (Keep.upd1 (.inl rfl) oh3 no_ins no_ins)
    have tk4 : TupK H3 (upd H3 o.a (.ins CO o.dx (odF o e.rc))) := tupK_upd oh3 no_ins
    have e3 : putF "received" (.int e.rc) (odF o m.paid) = odF o e.rc := rfl
    rcases ht with ⟨en, ht⟩ | ⟨j, sn, hm, ag, cr, x, u, en, hj, ht, hu⟩
    · refine ⟨t, _, rfl, ht, rfl, _, _, rfl, _, rfl, o.a, CO, o.dx, _, rfl, oh3, Z.cO, Z.nO _ (by decide), lt1000, ?_⟩
      rw [e3]
      refine ⟨_, _, rfl, _, _, rfl, rfl, ?_⟩
      generalize upd H3 o.a (.ins CO o.dx (odF o e.rc)) = H4 at *
      walk_at "gop"
      refine q H4 k4 ?_
      have eb : backM m e = { m with rows := m.rows.dropLast, paid := e.rc } := by
        show (⟨backL m.lines e.ln, e.rc, m.rows.dropLast⟩ : Od) = _
        rw [en]; rfl
      rw [eb]
      exact O4
    · refine ⟨t, _, rfl, ht, rfl, _, _, rfl, _, rfl, o.a, CO, o.dx, _, rfl, oh3, Z.cO, Z.nO _ (by decide), lt1000, ?_⟩
      rw [e3]
      refine ⟨_, _, rfl, _, _, rfl, rfl, ?_⟩
      have hu4 := SqT.tupK tk4 hu
      generalize upd H3 o.a (.ins CO o.dx (odF o e.rc)) = H4 at *
      have lj : j < m.lines.length := by rw [← O.len]; exact (List.getElem?_eq_some_iff.mp hj).1
      obtain ⟨dx, hx⟩ := O4.ln j x m.lines[j] hj (List.getElem?_eq_getElem lj)
      walk_at "gop"
      refine ⟨x, dx, u, m.lines[j], sn, hm, ag, cr, rfl, hx, hu4, ?_⟩
      have O5 := O4.setLine (l := { m.lines[j] with sent := sn, home := hm, again := ag, credited := cr }) rw2 hj hx
      have k5 : Keep (Foot o) H (upd H4 x (.ins CL dx (lnF { m.lines[j] with sent := sn, home := hm, again := ag, credited := cr }))) := k4.trans (Keep.upd1 (.inr (.inr (.inr (.inr (List.mem_of_getElem? hj))))) hx no_ins no_ins)
      generalize upd H4 x _ = H5 at *
      walk_at "gop"
      refine q H5 k5 ?_
      have eb : backM m e = setLine { m with rows := m.rows.dropLast, paid := e.rc } j { m.lines[j] with sent := sn, home := hm, again := ag, credited := cr } := by
        show (⟨backL m.lines e.ln, e.rc, m.rows.dropLast⟩ : Od) = _
        rw [en]
        show (⟨m.lines.set j { (m.lines.getD j ⟨⟨#[]⟩, 0, 0, 0, 0, 0, 0, 0⟩) with sent := sn, home := hm, again := ag, credited := cr }, e.rc, m.rows.dropLast⟩ : Od) = _
        rw [show m.lines.getD j ⟨⟨#[]⟩, 0, 0, 0, 0, 0, 0, 0⟩ = m.lines[j] by rw [List.getD_eq_getElem?_getD, List.getElem?_eq_getElem lj]; rfl]
        rfl
      rw [eb]
      exact O5
/-! ### an order less -/
theorem und_len {d : Deed} {M M0 : List Od} {E E0 : List (List Ent)} (h : Und d M E M0 E0) : M0.length ≤ M.length ∧ (∀ ls, d = .ord ls → M0.length + 1 = M.length) := by
  cases d with
  | ord ls =>
    obtain ⟨⟨m, rfl⟩, _⟩ := h
    rw [List.length_append]
    exact ⟨Nat.le_add_right _ _, fun _ _ => rfl⟩
  | goods x o l n =>
    obtain ⟨_, m, es, e, _, _, rfl, _⟩ := h
    rw [List.length_set]
    exact ⟨Nat.le_refl _, fun _ z => nomatch z⟩
  | money x o n =>
    obtain ⟨_, m, es, e, _, _, rfl, _⟩ := h
    rw [List.length_set]
    exact ⟨Nat.le_refl _, fun _ z => nomatch z⟩
  | move o p n =>
    obtain ⟨_, M1, E1, ⟨_, m, es, e, _, _, rfl, _⟩, ⟨_, m2, es2, e2, _, _, rfl, _⟩⟩ := h
    rw [List.length_set, List.length_set]
    exact ⟨Nat.le_refl _, fun _ z => nomatch z⟩
theorem hist_lt : ∀ {past : List (Deed × List Od)} {M : List Od} {E : List (List Ent)}, Hist past M E → ∀ p ∈ past, ∀ ls, p.1 = .ord ls → p.2.length < M.length
  | [], _, _, _, p, hp, _, _ => by cases hp
  | (d, M0) :: rest, M, E, h, p, hp, ls, e => by
    obtain ⟨_, E0, u, h0⟩ := h
    obtain ⟨l1, l2⟩ := und_len u
    rcases List.mem_cons.mp hp with rfl | hp
    · have := l2 ls e
      show M0.length < M.length
      omega
    · have := hist_lt h0 p hp ls e
      omega
theorem DvAt.less {H H2 : Hp} {os' : List OA2} {o : OA2} (t : TupK H H2) (q : ∀ p ∈ os', ∀ u, H p.q = some u → H2 p.q = some u) : ∀ {vs : List V} {rest : List (Deed × List Od)}, DvAt K H (os' ++ [o]) vs rest → (∀ p ∈ rest, ∀ ls, p.1 = .ord ls → p.2.length < os'.length) → DvAt K H2 os' vs rest
  | _, _, .nil, _ => .nil
  | _, (d, M0) :: _, .cons h r, lt => by
    refine .cons ?_ (DvAt.less t q r fun p hp => lt p (.tail _ hp))
    obtain ⟨sh, h⟩ := h
    refine ⟨sh, h.imp (fun ⟨ls, p, o2, xs, e1, e2, e3, e4, e5, e6, e7⟩ => ?_) fun ⟨e1, e2⟩ => ⟨e1, (deed_flat sh e1).tupK t e2⟩⟩
    have l := lt (d, M0) (.head _) ls e1
    have l : M0.length < os'.length := l
    rw [List.getElem?_append_left l] at e3
    exact ⟨ls, p, o2, xs, e1, e2, e3, t _ _ ⟨_, .inl rfl⟩ e4, q o2 (List.mem_of_getElem? e3) _ e5, flat_tupK t (lines_flat e7) e6, e7⟩
theorem ShpAt.less {fp : Addr → Prop} {H H2 : Hp} {b dx ol dl : Addr} {M0 : List Od} {m : Od} {E0 : List (List Ent)} {es : List Ent} {ls : List LineT} {rest : List (Deed × List Od)} {os' : List OA2} {o : OA2} {dv' : List V} {v : V}
    (A : ShpAt K CL CO CB fp H b (M0 ++ [m]) (E0 ++ [es]) ((.ord ls, M0) :: rest) dx ol dl (os' ++ [o]) (dv' ++ [v])) (ok : ∀ m ∈ M0, m.Ok) (lt : ∀ p ∈ rest, ∀ ls, p.1 = .ord ls → p.2.length < M0.length)
    (f : ∀ x u, x ≠ ol → x ≠ dl → H x = some u → H2 x = some u) (h1 : H2 ol = some (.lst (os'.map fun o => V.ref o.a))) (h2 : H2 dl = some (.lst dv')) :
    fp o.q ∧ (∃ t xs, v = .ref t ∧ H2 t = some (.tup [.str "order", .ref o.q]) ∧ H2 o.q = some (.lst xs) ∧ DpAll K H2 xs (ls.map lineD) ∧ ∀ t ∈ ls, PyData.strOk t.item = true) ∧ ShpAt K CL CO CB (fun x => fp x ∧ x ≠ o.q) H2 b M0 E0 rest dx ol dl os' dv' := by
  obtain ⟨f1, f2, f3, f4⟩ := A.fps
  have nb1 : b ≠ ol := fun z => by have := A.hb; rw [z, A.ho] at this; cases this
  have nb2 : b ≠ dl := fun z => by have := A.hb; rw [z, A.hd] at this; cases this
  have tk : TupK H H2 := fun a u tu e => by
    refine f a u (fun z => ?_) (fun z => ?_) e
    · rw [z, A.ho] at e; rw [← Option.some.inj e] at tu; exact no_lst tu
    · rw [z, A.hd] at e; rw [← Option.some.inj e] at tu; exact no_lst tu
  have lo := A.lM
  rw [List.length_append, List.length_append] at lo
  have lo : os'.length + 1 = M0.length + 1 := lo
  have le := A.lE
  rw [List.length_append, List.length_append] at le
  have le : os'.length + 1 = E0.length + 1 := le
  have mem : ∀ p ∈ os', p ∈ os' ++ [o] := fun p h => List.mem_append_left _ h
  have mo : o ∈ os' ++ [o] := List.mem_append_right _ (.head _)
  have go : (os' ++ [o])[os'.length]? = some o := by rw [List.getElem?_append_right (Nat.le_refl _), Nat.sub_self]; rfl
  have gp : ∀ (k : Nat) p, os'[k]? = some p → (os' ++ [o])[k]? = some p := fun k p h => by rw [List.getElem?_append_left (List.getElem?_eq_some_iff.mp h).1]; exact h
  have nqo : ∀ p ∈ os', p.q ≠ o.q := fun p h => by
    obtain ⟨k, hk⟩ := List.getElem?_of_mem h
    have lk := (List.getElem?_eq_some_iff.mp hk).1
    exact (A.dis k os'.length p o (by omega) (gp k p hk) go).2
  have fo : ∀ p ∈ os' ++ [o], ∀ x, Foot p x ∨ x = p.q → ∀ u, H x = some u → H2 x = some u := fun p h x hx u e => f x u (A.nf p h x hx).2.1 (A.nf p h x hx).2.2 e
  have dvr := A.dv
  rw [List.reverse_append] at dvr
  obtain ⟨d1, d2⟩ : DvOne K H (os' ++ [o]) v (.ord ls) M0 ∧ DvAt K H (os' ++ [o]) dv'.reverse rest := by
    cases dvr with
    | cons h r => exact ⟨h, r⟩
  refine ⟨(f4 o mo).2, ?_, ?_⟩
  · obtain ⟨_, ⟨ls2, t, o2, xs, e1, e2, e3, e4, e5, e6, e7⟩ | ⟨e1, _⟩⟩ := d1
    · cases e1
      rw [show M0.length = os'.length by omega, go] at e3
      cases e3
      exact ⟨t, xs, e2, tk _ _ ⟨_, .inl rfl⟩ e4, fo o mo _ (.inr rfl) _ e5, flat_tupK tk (lines_flat e7) e6, e7⟩
    · exact absurd rfl (e1 ls)
  · refine ⟨f _ _ nb1 nb2 A.hb, h1, h2, by omega, by omega, fun k p m' es' e1 e2 e3 => ?_, fun p hp => ?_, DvAt.less tk (fun p hp u e => fo p (mem p hp) _ (.inr rfl) u e) d2 (fun p hp ls e => by have := lt p hp ls e; omega), A.nol, fun p hp => A.nf p (mem p hp), fun p hp p' hp' => A.nq p (mem p hp) p' (mem p' hp'), fun i j p p' ne e1 e2 => A.dis i j p p' ne (gp i p e1) (gp j p' e2), ⟨⟨f1, fun z => (A.nf o mo _ (.inr rfl)).1 z.symm⟩, ⟨f2, fun z => (A.nf o mo _ (.inr rfl)).2.1 z.symm⟩, ⟨f3, fun z => (A.nf o mo _ (.inr rfl)).2.2 z.symm⟩, fun p hp => ⟨fun x hx => ⟨(f4 p (mem p hp)).1 x hx, fun z => A.nq p (mem p hp) o mo (z ▸ hx)⟩, (f4 p (mem p hp)).2, nqo p hp⟩⟩, fun a ha => ?_⟩
    · have hk := (List.getElem?_eq_some_iff.mp e1).1
      refine (A.od k p m' es' (gp k p e1) (by rw [List.getElem?_append_left (by omega)]; exact e2) (by rw [List.getElem?_append_left (by omega)]; exact e3)).frame (ok m' (List.mem_of_getElem? e2)).rw (fun x u hx e => fo p (mem p (List.mem_of_getElem? e1)) x (.inl hx) u e) tk
    · obtain ⟨xs, e⟩ := A.qs p (mem p hp)
      exact ⟨xs, fo p (mem p hp) _ (.inr rfl) _ e⟩
    · obtain ⟨u, e1, e2⟩ := A.mt a ha.1
      by_cases q1 : a = ol
      · rw [q1]; exact ⟨_, h1, no_lst⟩
      by_cases q2 : a = dl
      · rw [q2]; exact ⟨_, h2, no_lst⟩
      exact ⟨u, f a u q1 q2 e1, e2⟩
structure NDm (K : PySem.W.Frag) (mg : Str → Option Value) (cl : Str → Addr) : Prop where
  g : mg "NothingDone" = some (.ref (cl "NothingDone"))
  q : PySem.W.excIn K (cl "NothingDone") [.type "ValueError", .type "Exception", .type "BaseException", .type "object"] "ValueError.__new__" = true
  kp : PySem.W.keepIn K (.ref (cl "NothingDone")) = true
  sb : PySem.W.subIn K (.ref (cl "NothingDone")) (.type "BaseException") = some true
  ty : PySem.W.typeIn K (.ref (cl "NothingDone")) = some (.type "type")
theorem NDm.pmk {X : Cx} {cl : Str → Addr} (E : NDm X.K X.mg cl) (n : Str) (hn : n ∈ (["NothingDone"] : List Str)) {m : Str} {j : Nat} {p p2 pos : Pos} (hg : Gl X n := by rfl) (hdb : (n == ("__debug__" : Str)) = false := by decide) :
    PMk X (.Call (.Name n p) [.Constant (.str m) j p2] [] pos) (fun _ H Q => Q (.ref (cl n)) none H) := by
  have hn := List.mem_singleton.mp hn
  subst hn
  exact pmk_own PySem.F.excBase_ValueError E.q E.g E.kp (raises_own E.sb E.ty) hg hdb
theorem ShpAt.deedLess {fp : Addr → Prop} {H : Hp} {b dx ol dl : Addr} {M : List Od} {E : List (List Ent)} {p : Deed × List Od} {rest : List (Deed × List Od)} {os : List OA2} {dv' : List V} {v : V}
    (A : ShpAt K CL CO CB fp H b M E (p :: rest) dx ol dl os (dv' ++ [v])) (ok : ∀ m ∈ M, m.Ok) :
    DvOne K (upd H dl (.lst dv')) os v p.1 p.2 ∧ ShpAt K CL CO CB fp (upd H dl (.lst dv')) b M E rest dx ol dl os dv' := by
  obtain ⟨f1, f2, f3, f4⟩ := A.fps
  have t : TupK H (upd H dl (.lst dv')) := tupK_upd A.hd no_lst
  have nb : b ≠ dl := fun z => by have := A.hb; rw [z, A.hd] at this; cases this
  have nq : ∀ o' ∈ os, ∀ u, H o'.q = some u → upd H dl (.lst dv') o'.q = some u := fun o' h u e => by rw [upd_ne (A.nf o' h _ (.inr rfl)).2.2]; exact e
  have dvr := A.dv
  rw [List.reverse_append] at dvr
  obtain ⟨d1, d2⟩ : DvOne K H os v p.1 p.2 ∧ DvAt K H os dv'.reverse rest := by
    cases dvr with
    | cons h r => exact ⟨h, r⟩
  refine ⟨d1.frame t nq fun _ _ h => h, by rw [upd_ne nb]; exact A.hb, by rw [upd_ne A.nol]; exact A.ho, upd_same, A.lM, A.lE, fun i p m es h1 h2 h3 => ?_, fun o' h => ?_, d2.frame t nq fun _ _ h => h, A.nol, A.nf, A.nq, A.dis, A.fps, (Keep.upd1 (F := fp) f3 A.hd no_lst no_lst).mut A.mt⟩
  · exact (A.od i p m es h1 h2 h3).frame (ok m (List.mem_of_getElem? h2)).rw (fun x u hx e' => by rw [upd_ne (A.nf p (List.mem_of_getElem? h1) x (.inl hx)).2.2]; exact e') t
  · obtain ⟨xs, e⟩ := A.qs o' h
    exact ⟨xs, nq o' h _ e⟩
/-- the order of a deed that is taken back -/
theorem UndAt.ask {o : Int} {M M0 : List Od} {E E0 : List (List Ent)} {n : Nat} (u : UndAt o M E M0 E0) (ok : ∀ m ∈ M, m.Ok) (el : ∀ (k : Nat) m es, M[k]? = some m → E[k]? = some es → es.length = m.rows.length) {fp : Addr → Prop} {H : Hp} {b dx ol dl : Addr} {past : List (Deed × List Od)} {os : List OA2} {dv : List V} (A : ShpAt K CL CO CB fp H b M E past dx ol dl os dv) :
    ∃ oo m es e, atI (os.map fun o => V.ref o.a) o = some (.ref oo.a) ∧ os[o.toNat]? = some oo ∧ OdAt2 K CL CO H oo m (es ++ [e]) ∧ m.Ok ∧ (es ++ [e]).length = m.rows.length ∧ M0 = M.set o.toNat (backM m e) ∧ E0 = E.set o.toNat es ∧
      ∀ H', Keep (Foot oo) H H' → OdAt2 K CL CO H' oo (backM m e) es → ShpAt K CL CO CB fp H' b M0 E0 past dx ol dl os dv := by
  obtain ⟨h0, m, es, e, em, ee, rfl, rfl⟩ := u
  have hk := (List.getElem?_eq_some_iff.mp em).1
  obtain ⟨oo, eo, ea⟩ := os_at (os := os) h0 (by rw [A.lM]; omega)
  exact ⟨oo, m, es, e, ea, eo, A.od _ _ _ _ eo em ee, ok m (List.mem_of_getElem? em), el _ _ _ em ee, rfl, rfl, fun H' k O => A.order ok eo k O⟩
abbrev N_Book_undo : List Str := ["self", "deed"]
abbrev P_Book_undo : List Str := ["self"]
theorem sc_Book_undo : FnScope N_Book_undo P_Book_undo (defScope s_Book_undo) := ⟨rfl, rfl, rfl, by decide +kernel, rfl, by decide +kernel, by decide +kernel⟩
/-- the last deed taken back; of an order, the list of its lines is the book's no longer -/
def sp_undo2 (R : BRep) (K : PySem.W.Frag) (cl : Str → Addr) : Sp := fun vs H Q E => ∃ fp b S, vs = [.ref b] ∧ R.Rep fp H b S ∧ S.past.length ≤ 5000 ∧
  (∀ d M rest, S.past = (d, M) :: rest →
    ((∀ ls, d ≠ .ord ls) → ∀ H' v, Keep fp H H' → R.Rep fp H' b ⟨M, rest⟩ → Dp K (off fp H') v (deedD d) → Q v H') ∧
    (∀ ls, d = .ord ls → ∀ H' t q xs, Keep fp H H' → fp q → R.Rep (fun x => fp x ∧ x ≠ q) H' b ⟨M, rest⟩ → H' t = some (.tup [.str "order", .ref q]) → H' q = some (.lst xs) → DpAll K (off fp H') xs (ls.map lineD) → Q (.ref t) H')) ∧
  (S.past = [] → R.Ref cl fp H b S "NothingDone" E)
theorem B_undo {cl : Str → Addr} (Z : PF K CL CO CB) (T : Blt mg) (ND : NDm K mg cl) (m_Order_take_back : MCal P w K mg base CX0 2 CO "take_back" P_Order_take_back (sp_Order_take_back K CL CO))
    (D : MAt K CB "undo" "Book.undo" s_Book_undo P_Book_undo) : BCal P w K mg base 3 CB "undo" P_Book_undo (sp_undo2 (theR K CL CO CB) K cl) := by
  refine (mcal_ofX Z.cB D sc_Book_undo (fun vs H Q E h => ?_) (fun f cdv A outer s H vs Q E hr h => ?_)).bcal (by decide)
  · obtain ⟨fp, b, S, rfl, _⟩ := h
    rfl
  · obtain ⟨fp, b, S, rfl, r, pz, q, qe⟩ := h
    refine ⟨_, (pss_cons (ps_if (pt_not (pt_truth (pe_fld (pv 0) rfl) (by intro _; rfl)))
        (pss_one (ps_raise rfl (takes_of rfl rfl rfl rfl) (ND.pmk "NothingDone" (by decide))))
        pss_nil)
      (pss_cons (ps_set (i := 1) sc_Book_undo.nd rfl (Or.inl rfl) (pe_bm0 PySem.F.plainAttrs_list PySem.F.slot_list_pop PySem.F.type_list_pop mt_pop (pe_fld (pv 0) rfl)))
      (pss_cons (ps_if (pt_cmpR op_eq (pe_ix (kx_tup K) (pv 1) pe_int (fun _ _ => rfl)) pe_str (nomark _))
        (pss_cons (ps_expr (pe_bm0 PySem.F.plainAttrs_list PySem.F.slot_list_pop PySem.F.type_list_pop mt_pop (pe_fld (pv 0) rfl)))
        (pss_one (ps_ret (pv 1))))
        pss_nil)
      (pss_cons (ps_expr (pe_m0 m_Order_take_back (pe_ix (kx_list K) (pe_fld (pv 0) rfl) (pe_ix (kx_tup K) (pv 1) pe_int (fun _ _ => rfl)) (fun _ _ => rfl)) (hr.mono (by decide)) pass0))
      (Evl.pss_cut (ps_if (pt_cmpR op_eq (pe_ix (kx_tup K) (pv 1) pe_int (fun _ _ => rfl)) pe_str (nomark _))
        (pss_one (ps_expr (pe_m0 m_Order_take_back (pe_ix (kx_list K) (pe_fld (pv 0) rfl) (pe_ix (kx_tup K) (pv 1) pe_int (fun _ _ => rfl)) (fun _ _ => rfl)) (hr.mono (by decide)) pass0)))
        pss_nil)
      (pss_one (ps_ret (pv 1)))))))), ?_⟩
    obtain ⟨ES, dx, ol, dl, os, dv, A, hi⟩ := id r
    have hb := A.hb
    obtain ⟨M, past⟩ := S
    have lE := A.lM.symm.trans A.lE
    cases past with
    | nil =>
      have ed : dv = [] := by
        have := Paired.length A.dv
        rw [List.length_reverse] at this
        exact List.eq_nil_of_length_eq_zero this
      subst ed
      have hd := SqL.of (K := K) A.hd
      walk_at "gop"
      refine ⟨false, .inl ⟨_, hd, rfl⟩, ?_⟩
      walk_at "gop"
      exact qe rfl H fp .refl (.refl H) r
    | cons p rest =>
      obtain ⟨d, M0⟩ := p
      obtain ⟨gd, E0, un, hs⟩ := hi
      obtain ⟨q1, q2⟩ := q d M0 rest rfl
      obtain ⟨dv', v, rfl⟩ : ∃ dv' v, dv = dv' ++ [v] := by
        refine ⟨dv.dropLast, dv.getLast (fun z => ?_), (List.dropLast_concat_getLast _).symm⟩
        have := Paired.length A.dv
        rw [z] at this
        simp only [List.reverse_nil, List.length_nil, List.length_cons] at this
        omega
      have hd := A.hd
      have hd' := SqL.of (K := K) hd
      obtain ⟨f1, f2, f3, f4⟩ := A.fps
      walk_at "gop"
      refine ⟨true, .inl ⟨_, hd', by cases dv' <;> rfl⟩, ?_⟩
      walk_at "gop"
      refine ⟨.inl ⟨rfl, _, hd'⟩, ?_⟩
      walk_at "gop"
      refine ⟨dl, _, v, rfl, rfl, hd, last_get, ?_⟩
      rw [List.dropLast_concat]
      obtain ⟨dO, A1⟩ := A.deedLess gd.ok
      have k1 : Keep fp H (upd H dl (.lst dv')) := Keep.upd1 f3 hd no_lst no_lst
      have ndl : ol ≠ dl := A.nol
      have g1 : ∀ x u, x ≠ dl → H x = some u → upd H dl (.lst dv') x = some u := fun x u n e => by rw [upd_ne n]; exact e
      have hd1 : upd H dl (.lst dv') dl = some (.lst dv') := upd_same
      generalize upd H dl (.lst dv') = H1 at *
      have hb1 := A1.hb
      have ho1 := A1.ho
      by_cases od : ∃ ls, d = .ord ls
      · obtain ⟨ls, rfl⟩ := od
        obtain ⟨⟨m, rfl⟩, rfl⟩ := un
        obtain ⟨os', oo, rfl⟩ : ∃ os' o, os = os' ++ [o] := by
          refine ⟨os.dropLast, os.getLast (fun z => ?_), (List.dropLast_concat_getLast _).symm⟩
          have := A.lM
          rw [z, List.length_append] at this
          simp only [List.length_nil, List.length_cons] at this
          omega
        have ho0 := A.ho
        rw [List.map_append] at ho1
        have f : ∀ x u, x ≠ ol → x ≠ dl → H x = some u → upd H1 ol (.lst (os'.map fun o => V.ref o.a)) x = some u := fun x u n1 n2 e => by rw [upd_ne n1]; exact g1 x u n2 e
        have h2 : upd H1 ol (.lst (os'.map fun o => V.ref o.a)) dl = some (.lst dv') := by rw [upd_ne (Ne.symm ndl)]; exact hd1
        obtain ⟨fq, ⟨t, xs, rfl, ht, hq, hx, hst⟩, A2⟩ := ShpAt.less A hs.good.ok (hist_lt hs) f upd_same h2
        have ht1 : H1 t = some (.tup [.str "order", .ref oo.q]) := by
          have ne : t ≠ ol := fun z => by rw [z, upd_same] at ht; cases ht
          rw [upd_ne ne] at ht
          exact ht
        have k2 : Keep fp H (upd H1 ol (.lst (os'.map fun o => V.ref o.a))) := k1.trans (Keep.upd1 f2 ho1 no_lst no_lst)
        have hT := SqT.of (K := K) ht1
        walk_at "gop"
        refine ⟨.inl ⟨rfl, _, SqL.of ho1⟩, ?_⟩
        walk_at "gop"
        refine ⟨ol, _, .ref oo.a, rfl, rfl, ho1, last_get, ?_⟩
        rw [show ((os'.map fun o => V.ref o.a) ++ [oo].map fun o => V.ref o.a).dropLast = os'.map fun o => V.ref o.a from List.dropLast_concat]
        walk_at "gop"
        exact q2 ls rfl _ t oo.q xs k2 fq ⟨E0, dx, ol, dl, os', dv', A2, hs⟩ ht hq (flat_off (k2.mut A.mt) (.refl _) (lines_flat hst) hx)
      · have no : ∀ ls, d ≠ .ord ls := fun ls z => od ⟨ls, z⟩
        obtain ⟨sh, ⟨ls, t, o2, xs, e1, _⟩ | ⟨_, dd⟩⟩ := dO
        · exact absurd e1 (no ls)
        have fl := deed_flat sh no
        have fin : ∀ H', Keep fp H H' → TupK H1 H' → ShpAt K CL CO CB fp H' b M0 E0 rest dx ol dl os dv' → Q v H' := fun H' k t A' =>
          q1 no H' v k ⟨E0, dx, ol, dl, os, dv', A', hs⟩ (fl.off (k.mut A.mt) (.refl _) (fl.tupK t dd))
        cases d with
        | ord ls => exact absurd rfl (no ls)
        | goods x o l n =>
          obtain ⟨p, rfl, hp⟩ := deed_goods dd
          obtain ⟨n1, n2, n3, n4⟩ := goods_ne (show GoodsW x from sh)
          have e1 : decide (V.str x = V.str "order") = false := dec_str_no n1
          have e2 : decide (V.str x = V.str "move") = false := dec_str_no n2
          obtain ⟨oo, m, es, e, ea, eo, O, mok, el, eM, eE, nx⟩ := UndAt.ask (n := 0) un gd.ok gd.el A1
          have oh := O.hd
          have mo := List.mem_of_getElem? eo
          walk_at "gop"
          refine ⟨oo, m, es, e, rfl, O, mok, el, fun H2 k2 O2 => ?_⟩
          have hp2 := SqT.tupK k2.tupK hp
          have A2 := nx H2 k2 O2
          have k3 : Keep fp H H2 := k1.trans (k2.wide (f4 oo mo).1)
          walk_at "gop"
          refine ⟨fun σ H' => σ = [some (.ref b), some (.ref p)] ∧ Keep fp H H' ∧ TupK H1 H' ∧ ShpAt K CL CO CB fp H' b M0 E0 rest dx ol dl os dv', ?_, ?_⟩
          rotate_left
          · rintro σ H' ⟨rfl, k, t, A'⟩
            walk_at "gop"
            exact fin H' k t A'
          walk_at "gop"
          exact ⟨k2.tupK, A2⟩
        | money x o n =>
          obtain ⟨p, rfl, hp⟩ := deed_money dd
          have e1 : decide (V.str x = V.str "order") = false := dec_str_no (by rcases (show MoneyW x from sh) with rfl | rfl <;> decide +kernel)
          have e2 : decide (V.str x = V.str "move") = false := dec_str_no (by rcases (show MoneyW x from sh) with rfl | rfl <;> decide +kernel)
          obtain ⟨oo, m, es, e, ea, eo, O, mok, el, eM, eE, nx⟩ := UndAt.ask (n := 0) un gd.ok gd.el A1
          have oh := O.hd
          have mo := List.mem_of_getElem? eo
          walk_at "gop"
          refine ⟨oo, m, es, e, rfl, O, mok, el, fun H2 k2 O2 => ?_⟩
          have hp2 := SqT.tupK k2.tupK hp
          have A2 := nx H2 k2 O2
          have k3 : Keep fp H H2 := k1.trans (k2.wide (f4 oo mo).1)
          walk_at "gop"
          refine ⟨fun σ H' => σ = [some (.ref b), some (.ref p)] ∧ Keep fp H H' ∧ TupK H1 H' ∧ ShpAt K CL CO CB fp H' b M0 E0 rest dx ol dl os dv', ?_, ?_⟩
          rotate_left
          · rintro σ H' ⟨rfl, k, t, A'⟩
            walk_at "gop"
            exact fin H' k t A'
          walk_at "gop"
          exact ⟨k2.tupK, A2⟩
        | move o l n =>
          obtain ⟨p, rfl, hp⟩ := deed_move dd
          obtain ⟨ne, M1, E1, un, un2⟩ := un
          obtain ⟨oo, m, es, e, ea, eo, O, mok, el, eM, eE, nx⟩ := UndAt.ask (n := 0) un gd.ok gd.el A1
          have oh := O.hd
          have mo := List.mem_of_getElem? eo
          walk_at "gop"
          refine ⟨oo, m, es, e, rfl, O, mok, el, fun H2 k2 O2 => ?_⟩
          have hp2 := SqT.tupK k2.tupK hp
          have A2 := nx H2 k2 O2
          have k3 : Keep fp H H2 := k1.trans (k2.wide (f4 oo mo).1)
          walk_at "gop"
          refine ⟨fun σ H' => σ = [some (.ref b), some (.ref p)] ∧ Keep fp H H' ∧ TupK H1 H' ∧ ShpAt K CL CO CB fp H' b M0 E0 rest dx ol dl os dv', ?_, ?_⟩
          rotate_left
          · rintro σ H' ⟨rfl, k, t, A'⟩
            walk_at "gop"
            exact fin H' k t A'
          have hb2 := A2.hb
          have ho2 := A2.ho
          have h0 : 0 ≤ o := un.1
          have g0 : 0 ≤ l := un2.1
          have nt : o.toNat ≠ l.toNat := by omega
          have ko := (List.getElem?_eq_some_iff.mp eo).1
          have km : o.toNat < M.length := by have z : os.length = M.length := A.lM; rw [← z]; exact ko
          have ke : o.toNat < ES.length := by rw [← lE]; exact km
          have ok1 : ∀ m' ∈ M1, m'.Ok := fun m' hm => by
            rw [eM] at hm
            rcases List.mem_or_eq_of_mem_set hm with z | rfl
            · exact gd.ok _ z
            · obtain ⟨_, m2, es2, e2', _, _, eM0, _⟩ := un2
              refine hs.good.ok _ (List.mem_of_getElem? (i := o.toNat) ?_)
              rw [eM0, List.getElem?_set_ne nt.symm, eM]
              exact List.getElem?_set_self km
          have el1 : ∀ (k : Nat) m' es', M1[k]? = some m' → E1[k]? = some es' → es'.length = m'.rows.length := fun k m' es' z1 z2 => by
            rw [eM] at z1
            rw [eE] at z2
            by_cases z : o.toNat = k
            · subst z
              rw [List.getElem?_set_self km] at z1
              rw [List.getElem?_set_self ke] at z2
              cases z1
              cases z2
              show es.length = m.rows.dropLast.length
              rw [List.length_append, List.length_singleton] at el
              rw [List.length_dropLast]
              omega
            · rw [List.getElem?_set_ne z] at z1 z2
              exact gd.el k m' es' z1 z2
          obtain ⟨oo2, m2, es2, e2, ea2, eo2, O', mok2, el2, _, _, nx2⟩ := UndAt.ask (n := 0) un2 ok1 el1 A2
          have oh2 := O'.hd
          have mo2 := List.mem_of_getElem? eo2
          walk_at "gop"
          refine ⟨oo2, m2, es2, e2, rfl, O', mok2, el2, fun H3 k4 O3 => ?_⟩
          have A3 := nx2 H3 k4 O3
          have k5 : Keep fp H H3 := k3.trans (k4.wide (f4 oo2 mo2).1)
          exact ⟨rfl, k5, k2.tupK.trans k4.tupK, A3⟩
end
/-! ### covers matched with debts: the mathematics -/
abbrev Tri := Nat × Nat × Int
/-- the first debt gets from the first cover as much as goes, and so on -/
def mgo : List (Nat × Int) → List (Nat × Int) → List Tri
  | [], _ => []
  | _ :: _, [] => []
  | (i, d) :: ds, (j, c) :: cs =>
    if d < c then (i, j, d) :: mgo ds ((j, c - d) :: cs)
    else if c < d then (i, j, c) :: mgo ((i, d - c) :: ds) cs
    else (i, j, d) :: mgo ds cs
  termination_by ds cs => ds.length + cs.length
  decreasing_by all_goals (simp only [List.length_cons]; omega)
/-- the places with a change above nought, and how much -/
def debtsFrom (k : Nat) : List Int → List (Nat × Int)
  | [] => []
  | x :: r => if 0 < x then (k, x) :: debtsFrom (k + 1) r else debtsFrom (k + 1) r
def coversFrom (k : Nat) : List Int → List (Nat × Int)
  | [] => []
  | x :: r => if x < 0 then (k, -x) :: coversFrom (k + 1) r else coversFrom (k + 1) r
def matchL (row : List Int) : List Tri := mgo (debtsFrom 0 row) (coversFrom 0 row)
/-- what the law looks at, triple by triple: what is covered so far, the pair ahead -/
def Chk (row : List Int) : List Int → Int × Int → List Tri → Prop
  | _, _, [] => True
  | ps, last, (i, j, c) :: r => i < row.length ∧ j < row.length ∧ 0 < row.getD i 0 ∧ row.getD j 0 < 0 ∧ 0 < c ∧ ((i : Int), (j : Int)) ≠ last ∧
    (∀ k, k < i → 0 < row.getD k 0 → ps.getD k 0 = row.getD k 0) ∧ (∀ k, k < j → row.getD k 0 < 0 → ps.getD k 0 = -row.getD k 0) ∧
    ps.getD i 0 + c ≤ row.getD i 0 ∧ ps.getD j 0 + c ≤ -row.getD j 0 ∧ Chk row ((ps.set i (ps.getD i 0 + c)).set j (ps.getD j 0 + c)) ((i : Int), (j : Int)) r
/-- what a list of places with their parts has at a place -/
def remOf (l : List (Nat × Int)) (k : Nat) : Int := ((l.find? fun p => p.1 == k).map (·.2)).getD 0
def Asc : List (Nat × Int) → Prop
  | [] => True
  | p :: r => (∀ q ∈ r, p.1 < q.1) ∧ Asc r
theorem remOf_cons (i : Nat) (d : Int) (l : List (Nat × Int)) (k : Nat) : remOf ((i, d) :: l) k = if i = k then d else remOf l k := by
  unfold remOf
  rw [List.find?_cons]
  by_cases h : i = k
  · subst h; simp
  · have h' : (i == k) = false := by simpa using h
    simp only [h', if_neg h]
theorem remOf_none {l : List (Nat × Int)} {k : Nat} (h : ∀ q ∈ l, q.1 ≠ k) : remOf l k = 0 := by
  unfold remOf
  have : l.find? (fun p => p.1 == k) = none := by
    rw [List.find?_eq_none]
    intro q hq
    simpa using h q hq
  rw [this]; rfl
theorem debts_ge : ∀ (row : List Int) (k : Nat), ∀ q ∈ debtsFrom k row, k ≤ q.1 ∧ 0 < q.2
  | [], _, q, h => by cases h
  | x :: r, k, q, h => by
    unfold debtsFrom at h
    split at h
    · rcases List.mem_cons.mp h with rfl | h
      · exact ⟨Nat.le_refl _, by assumption⟩
      · have := debts_ge r (k + 1) q h; exact ⟨by omega, this.2⟩
    · have := debts_ge r (k + 1) q h; exact ⟨by omega, this.2⟩
theorem covers_ge : ∀ (row : List Int) (k : Nat), ∀ q ∈ coversFrom k row, k ≤ q.1 ∧ 0 < q.2
  | [], _, q, h => by cases h
  | x :: r, k, q, h => by
    unfold coversFrom at h
    split at h
    · rcases List.mem_cons.mp h with rfl | h
      · exact ⟨Nat.le_refl _, by show (0 : Int) < -x; omega⟩
      · have := covers_ge r (k + 1) q h; exact ⟨by omega, this.2⟩
    · have := covers_ge r (k + 1) q h; exact ⟨by omega, this.2⟩
theorem debts_asc : ∀ (row : List Int) (k : Nat), Asc (debtsFrom k row)
  | [], _ => True.intro
  | x :: r, k => by
    unfold debtsFrom
    split
    · exact ⟨fun q hq => by have := (debts_ge r (k + 1) q hq).1; show k < q.1; omega, debts_asc r (k + 1)⟩
    · exact debts_asc r (k + 1)
theorem covers_asc : ∀ (row : List Int) (k : Nat), Asc (coversFrom k row)
  | [], _ => True.intro
  | x :: r, k => by
    unfold coversFrom
    split
    · exact ⟨fun q hq => by have := (covers_ge r (k + 1) q hq).1; show k < q.1; omega, covers_asc r (k + 1)⟩
    · exact covers_asc r (k + 1)
theorem debts_rem : ∀ (row : List Int) (k n : Nat), remOf (debtsFrom k row) (k + n) = if 0 < row.getD n 0 then row.getD n 0 else 0
  | [], k, n => by simp [debtsFrom, remOf]
  | x :: r, k, 0 => by
    have h0 : remOf (debtsFrom (k + 1) r) k = 0 := remOf_none fun q hq => by have := (debts_ge r (k + 1) q hq).1; omega
    show remOf (debtsFrom k (x :: r)) k = _
    unfold debtsFrom
    by_cases h : 0 < x
    · rw [if_pos h, remOf_cons, if_pos rfl]; simp [h]
    · rw [if_neg h, h0]; simp [h]
  | x :: r, k, n + 1 => by
    have ih := debts_rem r (k + 1) n
    have e : k + (n + 1) = k + 1 + n := by omega
    unfold debtsFrom
    rw [e]
    split
    · rw [remOf_cons, if_neg (by omega), ih]; simp
    · rw [ih]; simp
theorem covers_rem : ∀ (row : List Int) (k n : Nat), remOf (coversFrom k row) (k + n) = if row.getD n 0 < 0 then -row.getD n 0 else 0
  | [], k, n => by simp [coversFrom, remOf]
  | x :: r, k, 0 => by
    have h0 : remOf (coversFrom (k + 1) r) k = 0 := remOf_none fun q hq => by have := (covers_ge r (k + 1) q hq).1; omega
    show remOf (coversFrom k (x :: r)) k = _
    unfold coversFrom
    by_cases h : x < 0
    · rw [if_pos h, remOf_cons, if_pos rfl]; simp [h]
    · rw [if_neg h, h0]; simp [h]
  | x :: r, k, n + 1 => by
    have ih := covers_rem r (k + 1) n
    have e : k + (n + 1) = k + 1 + n := by omega
    unfold coversFrom
    rw [e]
    split
    · rw [remOf_cons, if_neg (by omega), ih]; simp
    · rw [ih]; simp
/-- between two triples -/
structure MInv (row ps : List Int) (last : Int × Int) (ds cs : List (Nat × Int)) : Prop where
  len : ps.length = row.length
  ad : Asc ds
  ac : Asc cs
  pd : ∀ q ∈ ds, 0 < q.2
  pc : ∀ q ∈ cs, 0 < q.2
  dd : ∀ k, 0 < row.getD k 0 → ps.getD k 0 + remOf ds k = row.getD k 0
  cc : ∀ k, row.getD k 0 < 0 → ps.getD k 0 + remOf cs k = -row.getD k 0
  sd : ∀ q ∈ ds, 0 < row.getD q.1 0
  sc : ∀ q ∈ cs, row.getD q.1 0 < 0
  ne : (∀ q ∈ ds, (q.1 : Int) ≠ last.1) ∨ (∀ q ∈ cs, (q.1 : Int) ≠ last.2)
theorem getD_in {row : List Int} {k : Nat} (h : row.getD k 0 ≠ 0) : k < row.length := by
  rcases Nat.lt_or_ge k row.length with z | z
  · exact z
  · exact absurd (by rw [List.getD_eq_getElem?_getD, List.getElem?_eq_none z]; rfl) h
theorem getD_set {ps : List Int} {i k : Nat} {v : Int} (h : i < ps.length) : (ps.set i v).getD k 0 = if i = k then v else ps.getD k 0 := by
  rw [List.getD_eq_getElem?_getD, List.getD_eq_getElem?_getD]
  by_cases e : i = k
  · subst e; rw [if_pos rfl, List.getElem?_set_self h]; rfl
  · rw [if_neg e, List.getElem?_set_ne e]
/-- the step that all three ways share: c is taken from the first debt and from the first cover -/
theorem chk_step {row ps : List Int} {last : Int × Int} {i j : Nat} {d c p : Int} {ds cs ds' cs' : List (Nat × Int)} {r : List Tri} (I : MInv row ps last ((i, d) :: ds) ((j, c) :: cs)) (hp : 0 < p) (hd : p ≤ d) (hc : p ≤ c)
    (e1 : ds' = if p = d then ds else (i, d - p) :: ds) (e2 : cs' = if p = c then cs else (j, c - p) :: cs) (hx : p = d ∨ p = c)
    (h : MInv row ((ps.set i (ps.getD i 0 + p)).set j (ps.getD j 0 + p)) ((i : Int), (j : Int)) ds' cs' → Chk row ((ps.set i (ps.getD i 0 + p)).set j (ps.getD j 0 + p)) ((i : Int), (j : Int)) r) : Chk row ps last ((i, j, p) :: r) := by
  have hi := I.sd _ List.mem_cons_self
  have hj := I.sc _ List.mem_cons_self
  have hi : 0 < row.getD i 0 := hi
  have hj : row.getD j 0 < 0 := hj
  have li : i < row.length := getD_in (by omega)
  have lj : j < row.length := getD_in (by omega)
  have nij : i ≠ j := fun e => by subst e; omega
  have ai := I.ad
  have aj := I.ac
  have ri := I.dd i hi
  have rj := I.cc j hj
  rw [remOf_cons, if_pos rfl] at ri rj
  have gi : ∀ k, ((ps.set i (ps.getD i 0 + p)).set j (ps.getD j 0 + p)).getD k 0 = if j = k then ps.getD j 0 + p else if i = k then ps.getD i 0 + p else ps.getD k 0 := fun k => by
    rw [getD_set (by rw [List.length_set]; exact I.len ▸ lj), getD_set (by rw [I.len]; exact li)]
  have rd0 : remOf ds i = 0 := remOf_none fun q hq => by have : i < q.1 := ai.1 q hq; omega
  have rc0 : remOf cs j = 0 := remOf_none fun q hq => by have : j < q.1 := aj.1 q hq; omega
  refine ⟨li, lj, hi, hj, hp, fun e => ?_, fun k hk hr => ?_, fun k hk hr => ?_, by omega, by omega, h ?_⟩
  · rcases I.ne with z | z
    · exact z _ List.mem_cons_self (congrArg Prod.fst e)
    · exact z _ List.mem_cons_self (congrArg Prod.snd e)
  · have := I.dd k hr
    rw [remOf_cons, if_neg (by omega), remOf_none fun q hq => by have : i < q.1 := ai.1 q hq; omega] at this
    omega
  · have := I.cc k hr
    rw [remOf_cons, if_neg (by omega), remOf_none fun q hq => by have : j < q.1 := aj.1 q hq; omega] at this
    omega
  · have remd : ∀ k, remOf ds' k = if i = k then d - p else remOf ds k := fun k => by
      rw [e1]
      by_cases e : p = d
      · rw [if_pos e]
        by_cases ek : i = k
        · subst ek; rw [if_pos rfl, rd0]; omega
        · rw [if_neg ek]
      · rw [if_neg e, remOf_cons]
    have remc : ∀ k, remOf cs' k = if j = k then c - p else remOf cs k := fun k => by
      rw [e2]
      by_cases e : p = c
      · rw [if_pos e]
        by_cases ek : j = k
        · subst ek; rw [if_pos rfl, rc0]; omega
        · rw [if_neg ek]
      · rw [if_neg e, remOf_cons]
    have md : ∀ q ∈ ds', q ∈ ds ∨ (q = (i, d - p) ∧ p ≠ d) := fun q hq => by
      rw [e1] at hq
      split at hq
      · exact .inl hq
      · rcases List.mem_cons.mp hq with rfl | hq
        · exact .inr ⟨rfl, by assumption⟩
        · exact .inl hq
    have mc : ∀ q ∈ cs', q ∈ cs ∨ (q = (j, c - p) ∧ p ≠ c) := fun q hq => by
      rw [e2] at hq
      split at hq
      · exact .inl hq
      · rcases List.mem_cons.mp hq with rfl | hq
        · exact .inr ⟨rfl, by assumption⟩
        · exact .inl hq
    refine ⟨by rw [List.length_set, List.length_set]; exact I.len, ?_, ?_, fun q hq => ?_, fun q hq => ?_, fun k hr => ?_, fun k hr => ?_, fun q hq => ?_, fun q hq => ?_, ?_⟩
    · rw [e1]; split
      · exact ai.2
      · exact ⟨ai.1, ai.2⟩
    · rw [e2]; split
      · exact aj.2
      · exact ⟨aj.1, aj.2⟩
    · rcases md q hq with z | ⟨rfl, z⟩
      · exact I.pd q (List.mem_cons_of_mem _ z)
      · show 0 < d - p; omega
    · rcases mc q hq with z | ⟨rfl, z⟩
      · exact I.pc q (List.mem_cons_of_mem _ z)
      · show 0 < c - p; omega
    · rw [gi, remd]
      have nk : j ≠ k := fun e => by subst e; omega
      rw [if_neg nk]
      by_cases ek : i = k
      · subst ek; rw [if_pos rfl, if_pos rfl]; omega
      · rw [if_neg ek, if_neg ek]
        have := I.dd k hr
        rw [remOf_cons, if_neg ek] at this
        exact this
    · rw [gi, remc]
      have nk : i ≠ k := fun e => by subst e; omega
      by_cases ek : j = k
      · subst ek; rw [if_pos rfl, if_pos rfl]; omega
      · rw [if_neg ek, if_neg ek, if_neg nk]
        have := I.cc k hr
        rw [remOf_cons, if_neg ek] at this
        exact this
    · rcases md q hq with z | ⟨rfl, _⟩
      · exact I.sd q (List.mem_cons_of_mem _ z)
      · exact hi
    · rcases mc q hq with z | ⟨rfl, _⟩
      · exact I.sc q (List.mem_cons_of_mem _ z)
      · exact hj
    · rcases hx with z | z
      · refine .inl fun q hq => ?_
        rw [e1, if_pos z] at hq
        have : i < q.1 := ai.1 q hq
        show (q.1 : Int) ≠ (i : Int)
        omega
      · refine .inr fun q hq => ?_
        rw [e2, if_pos z] at hq
        have : j < q.1 := aj.1 q hq
        show (q.1 : Int) ≠ (j : Int)
        omega
theorem chk_mgo {row : List Int} : ∀ (n : Nat) (ds cs : List (Nat × Int)) (ps : List Int) (last : Int × Int), ds.length + cs.length ≤ n → MInv row ps last ds cs → Chk row ps last (mgo ds cs)
  | n, [], cs, ps, last, _, I => by unfold mgo; exact True.intro
  | n, _ :: _, [], ps, last, _, I => by unfold mgo; exact True.intro
  | 0, _ :: _, _ :: _, _, _, h, _ => by simp at h
  | n + 1, (i, d) :: ds, (j, c) :: cs, ps, last, h, I => by
    have pd : 0 < d := I.pd _ List.mem_cons_self
    have pc : 0 < c := I.pc _ List.mem_cons_self
    simp only [List.length_cons] at h
    unfold mgo
    split
    · exact chk_step (p := d) (ds' := ds) (cs' := (j, c - d) :: cs) I pd (by omega) (by omega) (by rw [if_pos rfl]) (by rw [if_neg (by omega)]) (.inl rfl) fun J => chk_mgo n _ _ _ _ (by simp only [List.length_cons]; omega) J
    · split
      · exact chk_step (p := c) (ds' := (i, d - c) :: ds) (cs' := cs) I pc (by omega) (by omega) (by rw [if_neg (by omega)]) (by rw [if_pos rfl]) (.inr rfl) fun J => chk_mgo n _ _ _ _ (by simp only [List.length_cons]; omega) J
      · exact chk_step (p := d) (ds' := ds) (cs' := cs) I pd (by omega) (by omega) (by rw [if_pos rfl]) (by rw [if_pos (by omega)]) (.inl rfl) fun J => chk_mgo n _ _ _ _ (by omega) J
def sumP (l : List (Nat × Int)) : Int := (l.map (·.2)).sum
theorem sumP_cons (p : Nat × Int) (l : List (Nat × Int)) : sumP (p :: l) = p.2 + sumP l := by unfold sumP; rw [List.map_cons, List.sum_cons]
theorem sumP_nonneg : ∀ {l : List (Nat × Int)}, (∀ q ∈ l, 0 < q.2) → 0 ≤ sumP l
  | [], _ => by show (0 : Int) ≤ 0; omega
  | p :: l, h => by
    rw [sumP_cons]
    have h1 := h p List.mem_cons_self
    have h2 := sumP_nonneg fun q hq => h q (List.mem_cons_of_mem _ hq)
    omega
theorem sum_mgo : ∀ (n : Nat) (ds cs : List (Nat × Int)), ds.length + cs.length ≤ n → (∀ q ∈ ds, 0 < q.2) → (∀ q ∈ cs, 0 < q.2) → ((mgo ds cs).map fun t => t.2.2).sum = min (sumP ds) (sumP cs)
  | n, [], cs, _, _, h => by
    have := sumP_nonneg h
    unfold mgo
    show (0 : Int) = min 0 (sumP cs)
    omega
  | n, p :: ds, [], _, h, _ => by
    have := sumP_nonneg h
    unfold mgo
    show (0 : Int) = min (sumP (p :: ds)) 0
    omega
  | 0, _ :: _, _ :: _, h, _, _ => by simp at h
  | n + 1, (i, d) :: ds, (j, c) :: cs, h, hd, hc => by
    have pd : 0 < d := hd _ List.mem_cons_self
    have pc : 0 < c := hc _ List.mem_cons_self
    have hd' : ∀ q ∈ ds, 0 < q.2 := fun q hq => hd q (List.mem_cons_of_mem _ hq)
    have hc' : ∀ q ∈ cs, 0 < q.2 := fun q hq => hc q (List.mem_cons_of_mem _ hq)
    simp only [List.length_cons] at h
    rw [sumP_cons, sumP_cons]
    unfold mgo
    split
    · have ih := sum_mgo n ds ((j, c - d) :: cs) (by simp only [List.length_cons]; omega) hd' fun q hq => by
        rcases List.mem_cons.mp hq with rfl | hq
        · show 0 < c - d; omega
        · exact hc' q hq
      rw [sumP_cons] at ih
      rw [List.map_cons, List.sum_cons, ih]
      show d + min (sumP ds) (c - d + sumP cs) = min (d + sumP ds) (c + sumP cs)
      omega
    · split
      · have ih := sum_mgo n ((i, d - c) :: ds) cs (by simp only [List.length_cons]; omega) (fun q hq => by
          rcases List.mem_cons.mp hq with rfl | hq
          · show 0 < d - c; omega
          · exact hd' q hq) hc'
        rw [sumP_cons] at ih
        rw [List.map_cons, List.sum_cons, ih]
        show c + min (d - c + sumP ds) (sumP cs) = min (d + sumP ds) (c + sumP cs)
        omega
      · have ih := sum_mgo n ds cs (by omega) hd' hc'
        rw [List.map_cons, List.sum_cons, ih]
        show d + min (sumP ds) (sumP cs) = min (d + sumP ds) (c + sumP cs)
        omega
theorem sumP_debts : ∀ (row : List Int) (k : Nat), sumP (debtsFrom k row) = (row.filter fun x => decide (0 < x)).sum
  | [], _ => rfl
  | x :: r, k => by
    have ih := sumP_debts r (k + 1)
    unfold debtsFrom
    by_cases h : 0 < x
    · rw [if_pos h, sumP_cons, ih, List.filter_cons_of_pos (by simpa using h), List.sum_cons]
    · rw [if_neg h, ih, List.filter_cons_of_neg (by simpa using h)]
theorem sumP_covers : ∀ (row : List Int) (k : Nat), sumP (coversFrom k row) = ((row.filter fun x => decide (x < 0)).map fun x => -x).sum
  | [], _ => rfl
  | x :: r, k => by
    have ih := sumP_covers r (k + 1)
    unfold coversFrom
    by_cases h : x < 0
    · rw [if_pos h, sumP_cons, ih, List.filter_cons_of_pos (by simpa using h), List.map_cons, List.sum_cons]
    · rw [if_neg h, ih, List.filter_cons_of_neg (by simpa using h)]
theorem chk_match (row : List Int) : Chk row (row.map fun _ => 0) (-1, -1) (matchL row) := by
  refine chk_mgo _ _ _ _ _ (Nat.le_refl _) ⟨List.length_map _, debts_asc _ _, covers_asc _ _, fun q hq => (debts_ge _ _ q hq).2, fun q hq => (covers_ge _ _ q hq).2, fun k hk => ?_, fun k hk => ?_, fun q hq => ?_, fun q hq => ?_, .inl fun q hq => by show (q.1 : Int) ≠ -1; omega⟩
  · have z : (row.map fun _ => (0 : Int)).getD k 0 = 0 := by
      rw [List.getD_eq_getElem?_getD, List.getElem?_map]; cases row[k]? <;> rfl
    have := debts_rem row 0 k
    rw [Nat.zero_add, if_pos hk] at this
    omega
  · have z : (row.map fun _ => (0 : Int)).getD k 0 = 0 := by
      rw [List.getD_eq_getElem?_getD, List.getElem?_map]; cases row[k]? <;> rfl
    have := covers_rem row 0 k
    rw [Nat.zero_add, if_pos hk] at this
    omega
  · rcases Int.lt_or_le 0 (row.getD q.1 0) with z | z
    · exact z
    · exfalso
      have h1 := debts_rem row 0 q.1
      rw [Nat.zero_add, if_neg (by omega)] at h1
      have h2 := (debts_ge _ _ q hq).2
      have h3 : ∀ (l : List (Nat × Int)), Asc l → q ∈ l → remOf l q.1 = q.2 := by
        intro l
        induction l with
        | nil => intro _ h; cases h
        | cons p l ih =>
          intro a h
          obtain ⟨pi, pd⟩ := p
          rw [remOf_cons]
          rcases List.mem_cons.mp h with rfl | h
          · rw [if_pos rfl]
          · have : pi < q.1 := a.1 q h
            rw [if_neg (by omega)]
            exact ih a.2 h
      have h4 := h3 _ (debts_asc _ _) hq
      omega
  · rcases Int.lt_or_le (row.getD q.1 0) 0 with z | z
    · exact z
    · exfalso
      have h1 := covers_rem row 0 q.1
      rw [Nat.zero_add, if_neg (by omega)] at h1
      have h2 := (covers_ge _ _ q hq).2
      have h3 : ∀ (l : List (Nat × Int)), Asc l → q ∈ l → remOf l q.1 = q.2 := by
        intro l
        induction l with
        | nil => intro _ h; cases h
        | cons p l ih =>
          intro a h
          obtain ⟨pi, pd⟩ := p
          rw [remOf_cons]
          rcases List.mem_cons.mp h with rfl | h
          · rw [if_pos rfl]
          · have : pi < q.1 := a.1 q h
            rw [if_neg (by omega)]
            exact ih a.2 h
      have h4 := h3 _ (covers_asc _ _) hq
      omega
theorem sum_match (row : List Int) : ((matchL row).map fun t => t.2.2).sum = min (row.filter fun x => decide (0 < x)).sum ((row.filter fun x => decide (x < 0)).map fun x => -x).sum := by
  unfold matchL
  rw [sum_mgo _ _ _ (Nat.le_refl _) (fun q hq => (debts_ge _ _ q hq).2) (fun q hq => (covers_ge _ _ q hq).2), sumP_debts, sumP_covers]
theorem mgo_length : ∀ (n : Nat) (ds cs : List (Nat × Int)), ds.length + cs.length ≤ n → (mgo ds cs).length ≤ ds.length + cs.length
  | n, [], cs, _ => by unfold mgo; simp
  | n, p :: ds, [], _ => by unfold mgo; simp
  | 0, _ :: _, _ :: _, h => by simp at h
  | n + 1, (i, d) :: ds, (j, c) :: cs, h => by
    simp only [List.length_cons] at h
    unfold mgo
    split
    · have := mgo_length n ds ((j, c - d) :: cs) (by simp only [List.length_cons]; omega)
      simp only [List.length_cons] at this ⊢; omega
    · split
      · have := mgo_length n ((i, d - c) :: ds) cs (by simp only [List.length_cons]; omega)
        simp only [List.length_cons] at this ⊢; omega
      · have := mgo_length n ds cs (by omega)
        simp only [List.length_cons] at this ⊢; omega
theorem debts_len : ∀ (row : List Int) (k : Nat), (debtsFrom k row).length + (coversFrom k row).length ≤ row.length
  | [], _ => Nat.le_refl _
  | x :: r, k => by
    have ih := debts_len r (k + 1)
    unfold debtsFrom coversFrom
    split <;> split <;> simp only [List.length_cons] <;> omega
theorem match_length (row : List Int) : (matchL row).length ≤ row.length := Nat.le_trans (mgo_length _ _ _ (Nat.le_refl _)) (debts_len row 0)
section
variable {P : Program} {w : World} {K : PySem.W.Frag} {mg : Str → Option Value} {base : Heap}
/-- an int is whole -/
abbrev N_whole : List Str := ["_law_found"]
abbrev P_whole : List Str := ["_law_found"]
theorem sc_whole : FnScope N_whole P_whole (defScope s_whole) := ⟨rfl, rfl, rfl, by decide +kernel, rfl, by decide +kernel, by decide +kernel⟩
def sp_whole : Sp := fun vs H Q _ => ∃ (i : Int), vs = [.int i] ∧ Q (.bl true) H
theorem c_whole (T : Blt mg) (D : DefAt K mg "_law_whole" s_whole P_whole) : Cal P w K mg base CX0 1 "_law_whole" P_whole sp_whole := by
  refine cal_of D sc_whole (fun vs H Q E h => ?_) (fun f cdv A outer s H vs Q E hr h => ?_)
  · obtain ⟨i, rfl, _⟩ := h
    rfl
  · obtain ⟨i, rfl, q⟩ := h
    refine ⟨_, (pss_one (ps_ret (pe_and (pe_callB (kc_isi K) (by rfl) T.m_isinstance (by decide +kernel) (pa_cons (pv 0) (pa_cons (pe_bltn (v := .ty "int") (by rfl) T.m_int PyProof.Rows.boot_int rfl) pa_nil))) (pe_one (pe_not (pe_callB (kc_isi K) (by rfl) T.m_isinstance (by decide +kernel) (pa_cons (pv 0) (pa_cons (pe_bltn (v := .ty "bool") (by rfl) T.m_bool PyProof.Rows.boot_bool rfl) pa_nil)))))))), ?_⟩
    walk_at "go"
    refine ⟨_, _, _, _, _, rfl, .ty _, .base (.int i), kit_ty (r := true) (by decide +kernel), ?_⟩
    walk_at "go"
    walk_at "go"
    refine ⟨_, _, _, _, _, rfl, .ty _, .base (.int i), kit_ty (r := false) (by decide +kernel), ?_⟩
    exact ⟨_, rfl, q⟩
end
/-! ### covers matched with debts: the law's own helpers -/
def triD (t : Tri) : PyData := .tuple [.int (t.1 : Int), .int (t.2.1 : Int), .int t.2.2]
/-- a triple that stands -/
theorem tri_inv {K : PySem.W.Frag} {H : Hp} {v : V} {t : Tri} (h : Dp K H v (triD t)) : ∃ a, v = .ref a ∧ SqT K H a [.int (t.1 : Int), .int (t.2.1 : Int), .int t.2.2] := by
  obtain ⟨a, xs, rfl, s, r⟩ := dp_tuple h
  cases r with
  | cons p r =>
    cases r with
    | cons p2 r =>
      cases r with
      | cons p3 r =>
        cases r
        rw [dp_int p, dp_int p2, dp_int p3] at s
        exact ⟨a, rfl, s⟩
section
variable {P : Program} {w : World} {K : PySem.W.Frag} {mg : Str → Option Value} {base : Heap}
theorem at_int {ns : List Int} {i : Nat} (h : i < ns.length) : atI (ns.map V.int) (i : Int) = some (.int (ns.getD i 0)) := by
  refine atI_nat ?_
  rw [List.getElem?_map, List.getD_eq_getElem?_getD, List.getElem?_eq_getElem h]
  rfl
abbrev N_ahead_whole : List Str := ["_law_row", "_law_parts", "_law_place", "_law_sign", "_law_k"]
abbrev P_ahead_whole : List Str := ["_law_row", "_law_parts", "_law_place", "_law_sign"]
theorem sc_ahead_whole : FnScope N_ahead_whole P_ahead_whole (defScope s_ahead_whole) := ⟨rfl, rfl, rfl, by decide +kernel, rfl, by decide +kernel, by decide +kernel⟩
def sp_ahead_whole (K : PySem.W.Frag) : Sp := fun vs H Q _ => ∃ (a b : Addr) (row ps : List Int) (n : Nat) (sg : Int), vs = [.ref a, .ref b, .int (n : Int), .int sg] ∧ SqL K H a (row.map V.int) ∧ SqL K H b (ps.map V.int) ∧ (sg = 1 ∨ sg = -1) ∧
  n ≤ row.length ∧ row.length ≤ 100000 ∧ ps.length = row.length ∧ (∀ k, k < n → 0 < row.getD k 0 * sg → ps.getD k 0 = row.getD k 0 * sg) ∧ Q (.bl true) H
theorem c_ahead_whole (T : Blt mg) (D : DefAt K mg "_law_ahead_whole" s_ahead_whole P_ahead_whole) : Cal P w K mg base CX0 1 "_law_ahead_whole" P_ahead_whole (sp_ahead_whole K) := by
  refine cal_of D sc_ahead_whole (fun vs H Q E h => ?_) (fun f cdv A outer s H vs Q E hr h => ?_)
  · obtain ⟨a, b, row, ps, n, sg, rfl, _⟩ := h
    rfl
  · obtain ⟨a, b, row, ps, n, sg, rfl, hS, hP, hs, hn, hz, hl, hc, q⟩ := h
    refine ⟨_, (pss_cons (ps_for PassesOwn.never rfl (pi_range1 (by rfl) T.m_range (pa_cons (pv 2) pa_nil)) (pg_name (i := 4) sc_ahead_whole.nd rfl (Or.inl rfl))
        (pss_one (ps_if (PW.pt (pw_and (pt_cmpR op_gt (pe_op op_mul (pe_ix (kx_list K) (pv 0) (pv 4) (fun _ _ => rfl)) (pv 3)) pe_int (nomark _)) (pw_and1 (pt_cmpR op_ne (pe_ix (kx_list K) (pv 1) (pv 4) (fun _ _ => rfl)) (pe_op op_mul (pe_ix (kx_list K) (pv 0) (pv 4) (fun _ _ => rfl)) (pv 3)) (nomark _)))))
          (pss_one (ps_ret pe_bl))
          pss_nil)))
      (pss_one (ps_ret pe_bl))), ?_⟩
    walk_at "go"
    refine for_range (lo := 0) (n := (n : Int).toNat) (fun i σ H' => H' = H ∧ ∃ v, σ = [some (.ref a), some (.ref b), some (.int (n : Int)), some (.int sg), v]) ⟨rfl, none, rfl⟩ ?_ ?_
    · rintro i σ H' hi ⟨rfl, v, rfl⟩
      have hi' : i < n := by omega
      walk_at "go"
      refine ⟨a, _, _, _, rfl, rfl, hS, (by show atI _ (0 + (i : Int)) = _; rw [Int.zero_add]; exact at_int (by omega)), ?_⟩
      walk_at "go"
      refine ite2 (fun h => ?_) (fun h => ?_)
      · have h := of_decide_eq_true h
        walk_at "go"
        refine ⟨b, _, _, _, rfl, rfl, hP, (by show atI _ (0 + (i : Int)) = _; rw [Int.zero_add]; exact at_int (by omega)), ?_⟩
        walk_at "go"
        refine ⟨a, _, _, _, rfl, rfl, hS, (by show atI _ (0 + (i : Int)) = _; rw [Int.zero_add]; exact at_int (by omega)), ?_⟩
        walk_at "go"
        have e := hc i hi' h
        refine iteNS (congrArg V.int e) ?_
        exact ⟨rfl, _, rfl⟩
      · exact ⟨rfl, _, rfl⟩
    · rintro σ H' ⟨rfl, v, rfl⟩
      exact q
abbrev N_is_triple : List Str := ["_law_row", "_law_one"]
abbrev P_is_triple : List Str := ["_law_row", "_law_one"]
theorem sc_is_triple : FnScope N_is_triple P_is_triple (defScope s_is_triple) := ⟨rfl, rfl, rfl, by decide +kernel, rfl, by decide +kernel, by decide +kernel⟩
def sp_is_triple (K : PySem.W.Frag) : Sp := fun vs H Q _ => ∃ (a : Addr) (v : V) (row : List Int) (t : Tri), vs = [.ref a, v] ∧ SqL K H a (row.map V.int) ∧ Dp K H v (triD t) ∧ t.1 < row.length ∧ t.2.1 < row.length ∧
  0 < row.getD t.1 0 ∧ row.getD t.2.1 0 < 0 ∧ 0 < t.2.2 ∧ Q (.bl true) H
theorem c_is_triple (T : Blt mg) (c_whole : Cal P w K mg base CX0 1 "_law_whole" P_whole sp_whole) (D : DefAt K mg "_law_is_triple" s_is_triple P_is_triple) : Cal P w K mg base CX0 2 "_law_is_triple" P_is_triple (sp_is_triple K) := by
  refine cal_of D sc_is_triple (fun vs H Q E h => ?_) (fun f cdv A outer s H vs Q E hr h => ?_)
  · obtain ⟨a, v, row, t, rfl, _⟩ := h
    rfl
  · obtain ⟨a, v, row, ⟨i, j, c⟩, rfl, hS, hT, h1, h2, h3, h4, h5, q⟩ := h
    have h1 : i < row.length := h1
    have h2 : j < row.length := h2
    have h3 : 0 < row.getD i 0 := h3
    have h4 : row.getD j 0 < 0 := h4
    have h5 : 0 < c := h5
    obtain ⟨b, rfl, hB⟩ := tri_inv hT
    refine ⟨_, (pss_cons (ps_if (PW.pt (pw_or (pt_not (pt_val (pe_callB (kc_isi K) (by rfl) T.m_isinstance (by decide +kernel) (pa_cons (pv 1) (pa_cons (pe_bltn (v := .ty "tuple") (by rfl) T.m_tuple PyProof.Rows.boot_tuple rfl) pa_nil))))) (pw_or1 (pt_cmpR op_ne (pe_callB (kc_len K) (by rfl) T.m_len PySem.boot_len (pa_cons (pv 1) pa_nil)) pe_int (nomark _)))))
        (pss_one (ps_ret pe_bl))
        pss_nil)
      (pss_cons (ps_if (PW.pt (pw_or (pt_not (pt_val (pe_cal c_whole (hr.mono (by decide)) pass0 (pa_cons (pe_ix (kx_tup K) (pv 1) pe_int (fun _ _ => rfl)) pa_nil)))) (pw_or (pt_not (pt_val (pe_cal c_whole (hr.mono (by decide)) pass0 (pa_cons (pe_ix (kx_tup K) (pv 1) pe_int (fun _ _ => rfl)) pa_nil)))) (pw_or1 (pt_not (pt_val (pe_cal c_whole (hr.mono (by decide)) pass0 (pa_cons (pe_ix (kx_tup K) (pv 1) pe_int (fun _ _ => rfl)) pa_nil))))))))
        (pss_one (ps_ret pe_bl))
        pss_nil)
      (pss_cons (ps_if (PW.pt (pw_or (pt_not (pt_chain op_le op_lt pe_int (pe_ix (kx_tup K) (pv 1) pe_int (fun _ _ => rfl)) (pe_callB (kc_len K) (by rfl) T.m_len PySem.boot_len (pa_cons (pv 0) pa_nil)))) (pw_or1 (pt_not (pt_chain op_le op_lt pe_int (pe_ix (kx_tup K) (pv 1) pe_int (fun _ _ => rfl)) (pe_callB (kc_len K) (by rfl) T.m_len PySem.boot_len (pa_cons (pv 0) pa_nil)))))))
        (pss_one (ps_ret pe_bl))
        pss_nil)
      (pss_one (ps_ret (pe_and (pe_cmpR op_gt (pe_ix (kx_list K) (pv 0) (pe_ix (kx_tup K) (pv 1) pe_int (fun _ _ => rfl)) (fun _ _ => rfl)) pe_int (nomark _)) (pe_and (pe_cmpR op_lt (pe_ix (kx_list K) (pv 0) (pe_ix (kx_tup K) (pv 1) pe_int (fun _ _ => rfl)) (fun _ _ => rfl)) pe_int (nomark _)) (pe_one (pe_cmpR op_gt (pe_ix (kx_tup K) (pv 1) pe_int (fun _ _ => rfl)) pe_int (nomark _)))))))))), ?_⟩
    walk_at "go"
    refine ⟨_, _, _, _, _, rfl, .ty _, tyx_t hB, kit_ty (r := true) (by decide +kernel), ?_⟩
    walk_at "go"
    refine ⟨b, _, rfl, .inr hB, ?_⟩
    walk_at "go"
    refine ⟨b, _, _, _, rfl, rfl, hB, atI_nat (j := 0) rfl, ?_⟩
    walk_at "go"
    refine ⟨b, _, _, _, rfl, rfl, hB, atI_nat (j := 1) rfl, ?_⟩
    walk_at "go"
    refine ⟨b, _, _, _, rfl, rfl, hB, atI_nat (j := 2) rfl, ?_⟩
    walk_at "go"
    refine ⟨b, _, _, _, rfl, rfl, hB, atI_nat (j := 0) rfl, ?_⟩
    walk_at "go"
    refine ⟨a, _, rfl, .inl hS, ?_⟩
    walk_at "go"
    rw [List.length_map, decide_eq_true (show (i : Int) < (row.length : Int) by omega)]
    walk_at "go"
    refine ⟨b, _, _, _, rfl, rfl, hB, atI_nat (j := 1) rfl, ?_⟩
    walk_at "go"
    refine ⟨a, _, rfl, .inl hS, ?_⟩
    walk_at "go"
    rw [List.length_map, decide_eq_true (show (j : Int) < (row.length : Int) by omega)]
    walk_at "go"
    refine ⟨b, _, _, _, rfl, rfl, hB, atI_nat (j := 0) rfl, ?_⟩
    walk_at "go"
    refine ⟨a, _, _, _, rfl, rfl, hS, at_int h1, ?_⟩
    walk_at "go"
    rw [decide_eq_true h3]
    walk_at "go"
    refine ⟨b, _, _, _, rfl, rfl, hB, atI_nat (j := 1) rfl, ?_⟩
    walk_at "go"
    refine ⟨a, _, _, _, rfl, rfl, hS, at_int h2, ?_⟩
    walk_at "go"
    rw [decide_eq_true h4]
    walk_at "go"
    refine ⟨b, _, _, _, rfl, rfl, hB, atI_nat (j := 2) rfl, ?_⟩
    walk_at "go"
    show Q (.bl (decide (0 < c))) H
    rw [decide_eq_true h5]
    exact q
theorem neq_of {x y : Int × Int} (h : x ≠ y) : PyData.eqv (.tuple [.int x.1, .int x.2]) (.tuple [.int y.1, .int y.2]) = false := by
  obtain ⟨a, b⟩ := x
  obtain ⟨c, d⟩ := y
  show ((a == c) && ((b == d) && true)) = false
  by_cases e : a = c
  · by_cases e2 : b = d
    · exact absurd (by rw [e, e2]) h
    · have : (b == d) = false := by simpa using e2
      rw [this]; simp
  · have : (a == c) = false := by simpa using e
    rw [this]; rfl
theorem set_ints {ns : List Int} {j : Nat} {v : Int} : (ns.map V.int).set j (.int v) = (ns.set j v).map V.int := by rw [List.map_set]
theorem ix_in {n : Nat} {i : Nat} (h : i < n) : ixN n (i : Int) = some i := by
  unfold ixN
  rw [if_pos (by omega), if_pos (by omega), Int.toNat_natCast]
abbrev N_matched_well : List Str := ["_law_row", "_law_found", "_law_parts", "_law_last", "_law_one", "_law_debts", "_law_covers", "_law_cell", "_law_cents"]
abbrev P_matched_well : List Str := ["_law_row", "_law_found"]
theorem sc_matched_well : FnScope N_matched_well P_matched_well (defScope s_matched_well) := ⟨rfl, rfl, rfl, by decide +kernel, rfl, by decide +kernel, by decide +kernel⟩
def sp_matched_well (K : PySem.W.Frag) : Sp := fun vs H Q _ => ∃ (a : Addr) (v : V) (row : List Int) (ts : List Tri), vs = [.ref a, v] ∧ SqL K H a (row.map V.int) ∧ Dp K H v (.list (ts.map triD)) ∧ row.length ≤ 100000 ∧ ts.length ≤ 100000 ∧
  Chk row (row.map fun _ => 0) (-1, -1) ts ∧ (ts.map fun t => t.2.2).sum = min (row.filter fun x => decide (0 < x)).sum ((row.filter fun x => decide (x < 0)).map fun x => -x).sum ∧ ∀ H', Same H H' → Q (.bl true) H'
theorem c_matched_well (T : Blt mg) (c_is_triple : Cal P w K mg base CX0 2 "_law_is_triple" P_is_triple (sp_is_triple K)) (c_ahead_whole : Cal P w K mg base CX0 1 "_law_ahead_whole" P_ahead_whole (sp_ahead_whole K))
    (D : DefAt K mg "_law_matched_well" s_matched_well P_matched_well) : Cal P w K mg base CX0 3 "_law_matched_well" P_matched_well (sp_matched_well K) := by
  refine cal_of D sc_matched_well (fun vs H Q E h => ?_) (fun f cdv A outer s H vs Q E hr h => ?_)
  · obtain ⟨a, v, row, ts, rfl, _⟩ := h
    rfl
  · obtain ⟨a, v, row, ts, rfl, hS, hT, hz, hzt, hC, hsum, q⟩ := h
    obtain ⟨b, xs, rfl, hB, hX⟩ := dp_list hT
    have hxl : xs.length = ts.length := by rw [hX.length, List.length_map]
    refine ⟨_, (pss_cons (ps_setLc (i := 2) (own := [("_law_cell", 7)]) (g := gName 7) (tt := tYes) rfl sc_matched_well.nd rfl rfl (sw_true rfl rfl rfl (by decide +kernel)) (ki_list K (pv 0)) (blkOk_by (N := N_matched_well) (sc := defScope s_matched_well) (by decide +kernel)) (fun _ _ _ _ _ => pg_name (i := 7) sc_matched_well.nd rfl (Or.inl rfl)) (fun _ _ _ _ _ => pts_nil) (fun _ _ _ _ _ => pe_int))
      (pss_cons (ps_set (i := 3) sc_matched_well.nd rfl (Or.inl rfl) (pe_tup (pa_cons (pe_un un_neg pe_int) (pa_cons (pe_un un_neg pe_int) pa_nil))))
      (pss_cons (ps_for PassesOwn.never rfl (ki_list K (pv 1)) (pg_name (i := 4) sc_matched_well.nd rfl (Or.inl rfl))
        (pss_cons (ps_if (PW.pt (pw_or (pt_not (pt_val (pe_cal c_is_triple (hr.mono (by decide)) pass0 (pa_cons (pv 0) (pa_cons (pv 4) pa_nil))))) (pw_or1 (pt_cmpR (ko_eqD K hr.units) (pe_tup (pa_cons (pe_ix (kx_tup K) (pv 4) pe_int (fun _ _ => rfl)) (pa_cons (pe_ix (kx_tup K) (pv 4) pe_int (fun _ _ => rfl)) pa_nil))) (pv 3) (nomark _)))))
          (pss_one (ps_ret pe_bl))
          pss_nil)
        (pss_cons (ps_if (PW.pt (pw_or (pt_not (pt_val (pe_cal c_ahead_whole (hr.mono (by decide)) pass0 (pa_cons (pv 0) (pa_cons (pv 2) (pa_cons (pe_ix (kx_tup K) (pv 4) pe_int (fun _ _ => rfl)) (pa_cons pe_int pa_nil))))))) (pw_or1 (pt_not (pt_val (pe_cal c_ahead_whole (hr.mono (by decide)) pass0 (pa_cons (pv 0) (pa_cons (pv 2) (pa_cons (pe_ix (kx_tup K) (pv 4) pe_int (fun _ _ => rfl)) (pa_cons (pe_un un_neg pe_int) pa_nil))))))))))
          (pss_one (ps_ret pe_bl))
          pss_nil)
        (pss_cons (ps_asg (pe_op op_add (pe_ix (kx_list K) (pv 2) (pe_ix (kx_tup K) (pv 4) pe_int (fun _ _ => rfl)) (fun _ _ => rfl)) (pe_ix (kx_tup K) (pv 4) pe_int (fun _ _ => rfl))) (pg_sub (pv 2) (pe_ix (kx_tup K) (pv 4) pe_int (fun _ _ => rfl)) set_list))
        (pss_cons (ps_asg (pe_op op_add (pe_ix (kx_list K) (pv 2) (pe_ix (kx_tup K) (pv 4) pe_int (fun _ _ => rfl)) (fun _ _ => rfl)) (pe_ix (kx_tup K) (pv 4) pe_int (fun _ _ => rfl))) (pg_sub (pv 2) (pe_ix (kx_tup K) (pv 4) pe_int (fun _ _ => rfl)) set_list))
        (pss_cons (ps_if (PW.pt (pw_or (pt_cmpR op_gt (pe_ix (kx_list K) (pv 2) (pe_ix (kx_tup K) (pv 4) pe_int (fun _ _ => rfl)) (fun _ _ => rfl)) (pe_ix (kx_list K) (pv 0) (pe_ix (kx_tup K) (pv 4) pe_int (fun _ _ => rfl)) (fun _ _ => rfl)) (nomark _)) (pw_or1 (pt_cmpR op_gt (pe_ix (kx_list K) (pv 2) (pe_ix (kx_tup K) (pv 4) pe_int (fun _ _ => rfl)) (fun _ _ => rfl)) (pe_un un_neg (pe_ix (kx_list K) (pv 0) (pe_ix (kx_tup K) (pv 4) pe_int (fun _ _ => rfl)) (fun _ _ => rfl))) (nomark _)))))
          (pss_one (ps_ret pe_bl))
          pss_nil)
        (pss_one (ps_set (i := 3) sc_matched_well.nd rfl (Or.inl rfl) (pe_tup (pa_cons (pe_ix (kx_tup K) (pv 4) pe_int (fun _ _ => rfl)) (pa_cons (pe_ix (kx_tup K) (pv 4) pe_int (fun _ _ => rfl)) pa_nil)))))))))))
      (pss_cons (ps_set (i := 5) sc_matched_well.nd rfl (Or.inl rfl) (pe_callB (kc_sum K rfl) (by rfl) T.m_sum (by decide +kernel) (pa_cons (pe_lc (own := [("_law_cents", 8)]) (g := gName 8) rfl sc_matched_well.nd (ki_list K (pv 0)) (blkOk_by (N := N_matched_well) (sc := defScope s_matched_well) (by decide +kernel)) (fun _ _ _ _ _ => pg_name (i := 8) sc_matched_well.nd rfl (Or.inl rfl)) (fun _ _ _ _ _ => pts_one (pt_cmpR op_gt (pv 8) pe_int (nomark _))) (fun _ _ _ _ _ => (pv 8))) pa_nil)))
      (pss_cons (ps_set (i := 6) sc_matched_well.nd rfl (Or.inl rfl) (pe_callB (kc_sum K rfl) (by rfl) T.m_sum (by decide +kernel) (pa_cons (pe_lc (own := [("_law_cents", 8)]) (g := gName 8) rfl sc_matched_well.nd (ki_list K (pv 0)) (blkOk_by (N := N_matched_well) (sc := defScope s_matched_well) (by decide +kernel)) (fun _ _ _ _ _ => pg_name (i := 8) sc_matched_well.nd rfl (Or.inl rfl)) (fun _ _ _ _ _ => pts_one (pt_cmpR op_lt (pv 8) pe_int (nomark _))) (fun _ _ _ _ _ => (pe_un un_neg (pv 8)))) pa_nil)))
      (pss_one (ps_ret (pe_cmpR op_eq (pe_callB (kc_sum K rfl) (by rfl) T.m_sum (by decide +kernel) (pa_cons (pe_lc (own := [("_law_one", 4)]) (g := gName 4) (tt := tYes) rfl sc_matched_well.nd (ki_list K (pv 1)) (blkOk_by (N := N_matched_well) (sc := defScope s_matched_well) (by decide +kernel)) (fun _ _ _ _ _ => pg_name (i := 4) sc_matched_well.nd rfl (Or.inl rfl)) (fun _ _ _ _ _ => pts_nil) (fun _ _ _ _ _ => (pe_ix (kx_tup K) (pv 4) pe_int (fun _ _ => rfl)))) pa_nil)) (pe_callB (call_min2 rfl) (by rfl) T.m_min (by decide +kernel) (pa_cons (pv 5) (pa_cons (pv 6) pa_nil))) (nomark _))))))))), ?_⟩
    walk_at "go"
    -- parts
    refine ⟨⟨_, hS⟩, fun D hD => ?_⟩
    refine lcD_list (fp := fun _ => False) ((row.map fun _ => (0 : Int)).map PyData.int) (by simp) (by simpa using hz) hS hD has_none (fun i x d H1 R hx hd _ _ k => ?_) (fun H1 ys s1 hd r _ => ?_)
    · refine k _ _ (Same.refl _) ?_
      have : d = .int 0 := by
        rw [List.getElem?_map, List.getElem?_map] at hd
        cases e : row[i]? with
        | none => rw [e] at hd; cases hd
        | some z => rw [e] at hd; exact (Option.some.inj hd).symm
      rw [this]
      exact .int 0
    have hy := dpAll_ints_inv r
    subst hy
    walk_at "go"
    intro p hp
    -- for one in found
    have sp := s1.trans (same_new (o := .tup [.int (-1), .int (-1)]) hp)
    have npd : D ≠ p := ne_of_none hd hp
    walk_at "go"
    refine ⟨⟨_, same_l sp hB⟩, ?_⟩
    refine for_list (K := K) (a := b) (xs := xs) (fun i σ H2 => ∃ (ps : List Int) (pl : Addr) (l : Int × Int) (v : Option V), σ = [some (.ref a), some (.ref b), some (.ref D), some (.ref pl), v, none, none, none, none] ∧ Same H H2 ∧ H2 D = some (.lst (ps.map V.int)) ∧ H2 pl = some (.tup [.int l.1, .int l.2]) ∧ ps.length = row.length ∧ Chk row ps l (ts.drop i))
      ⟨row.map fun _ => 0, p, (-1, -1), none, rfl, sp, by rw [upd_ne npd]; exact hd, upd_same, by simp, hC⟩ (fun i σ H2 _ ⟨_, _, _, _, _, s2, _⟩ => same_l s2 hB) ?_ ?_
    · rintro i x σ H2 hx ⟨ps, pl, l, v4, rfl, s2, hd2, hpl, hlen, hk⟩
      have hi : i < ts.length := by
        have := (List.getElem?_eq_some_iff.mp hx).1
        omega
      rw [List.drop_eq_getElem_cons hi] at hk
      obtain ⟨d, hdi, hdx⟩ := hX.got hx
      rw [List.getElem?_map, List.getElem?_eq_getElem hi] at hdi
      have hdi := Option.some.inj hdi
      subst hdi
      revert hk hdx
      generalize ts[i] = t
      obtain ⟨ti, tj, c⟩ := t
      rintro ⟨h1, h2, h3, h4, h5, h6, h7, h8, h9, h10, hk⟩ hdx
      obtain ⟨e, rfl, hE⟩ := tri_inv hdx
      have hE2 := same_t s2 hE
      have nij : ti ≠ tj := fun z => by subst z; omega
      -- not is_triple(..) or the pair again
      walk_at "go"
      refine ⟨a, .ref e, row, (ti, tj, c), rfl, same_l s2 hS, hdx.same s2, h1, h2, h3, h4, h5, ?_⟩
      walk_at "go"
      refine ⟨e, _, _, _, rfl, rfl, hE2, atI_nat (j := 0) rfl, ?_⟩
      walk_at "go"
      refine ⟨e, _, _, _, rfl, rfl, hE2, atI_nat (j := 1) rfl, ?_⟩
      walk_at "go"
      intro p2 hp2
      have s3 : Same H2 _ := same_new (o := .tup [.int (ti : Int), .int (tj : Int)]) hp2
      walk_at "go"
      refine ⟨.tuple [.int (ti : Int), .int (tj : Int)], .tuple [.int l.1, .int l.2], .tup (.inl (.inl upd_same)) (.cons (.int _) (.cons (.int _) .nil)), .tup (.inl (.inl (s3 _ _ hpl))) (.cons (.int _) (.cons (.int _) .nil)), shaped_fl (n := 1) rfl, shaped_fl (n := 1) rfl, ?_⟩
      rw [neq_of (x := ((ti : Int), (tj : Int))) h6]
      walk_at "go"
      -- what lies ahead is whole
      have s03 := s2.trans s3
      have hE3 := same_t s03 hE
      have hD3 : (upd H2 p2 (.tup [.int (ti : Int), .int (tj : Int)])) D = some (.lst (ps.map V.int)) := s3 _ _ hd2
      have hS3 := same_l s03 hS
      have hpl3 := s3 _ _ hpl
      revert s03 hE3 hD3 hS3 hpl3
      generalize (upd H2 p2 (.tup [.int (ti : Int), .int (tj : Int)])) = H3
      intro s03 hE3 hD3 hS3 hpl3
      refine ⟨e, _, _, _, rfl, rfl, hE3, atI_nat (j := 0) rfl, ?_⟩
      refine ⟨a, D, row, ps, ti, 1, rfl, hS3, SqL.of hD3, .inl rfl, by omega, hz, hlen, fun k hk hr => ?_, ?_⟩
      · rw [Int.mul_one] at hr ⊢
        exact h7 k hk hr
      walk_at "go"
      refine ⟨e, _, _, _, rfl, rfl, hE3, atI_nat (j := 1) rfl, ?_⟩
      walk_at "go"
      refine ⟨a, D, row, ps, tj, -1, rfl, hS3, SqL.of hD3, .inr rfl, by omega, hz, hlen, fun k hk hr => ?_, ?_⟩
      · have := h8 k hk (by omega)
        omega
      walk_at "go"
      -- parts[one[0]] = parts[one[0]] + one[2]
      refine ⟨e, _, _, _, rfl, rfl, hE3, atI_nat (j := 0) rfl, ?_⟩
      refine ⟨D, _, _, _, rfl, rfl, SqL.of hD3, at_int (by omega), ?_⟩
      walk_at "go"
      refine ⟨e, _, _, _, rfl, rfl, hE3, atI_nat (j := 2) rfl, ?_⟩
      walk_at "go"
      refine ⟨e, _, _, _, rfl, rfl, hE3, atI_nat (j := 0) rfl, ?_⟩
      refine ⟨D, _, _, _, rfl, rfl, hD3, by rw [List.length_map]; exact ix_in (by omega), ?_⟩
      rw [set_ints]
      have ndp : pl ≠ D := fun z => by rw [z, hD3] at hpl3; cases hpl3
      have s04 := same_mut (o := .lst ((ps.set ti (ps.getD ti 0 + c)).map V.int)) s03 hD
      have hpl4 : (upd H3 D (.lst ((ps.set ti (ps.getD ti 0 + c)).map V.int))) pl = some (.tup [.int l.1, .int l.2]) := by rw [upd_ne ndp]; exact hpl3
      have hD4 : (upd H3 D (.lst ((ps.set ti (ps.getD ti 0 + c)).map V.int))) D = _ := upd_same
      revert s04 hpl4 hD4
      generalize (upd H3 D (.lst ((ps.set ti (ps.getD ti 0 + c)).map V.int))) = H4
      intro s04 hpl4 hD4
      have hE4 := same_t s04 hE
      have hS4 := same_l s04 hS
      have gj : (ps.set ti (ps.getD ti 0 + c)).getD tj 0 = ps.getD tj 0 := by rw [getD_set (by omega), if_neg nij]
      walk_at "go"
      refine ⟨e, _, _, _, rfl, rfl, hE4, atI_nat (j := 1) rfl, ?_⟩
      refine ⟨D, _, _, _, rfl, rfl, SqL.of hD4, at_int (i := tj) (by rw [List.length_set]; omega), ?_⟩
      walk_at "go"
      refine ⟨e, _, _, _, rfl, rfl, hE4, atI_nat (j := 2) rfl, ?_⟩
      walk_at "go"
      refine ⟨e, _, _, _, rfl, rfl, hE4, atI_nat (j := 1) rfl, ?_⟩
      refine ⟨D, _, _, _, rfl, rfl, hD4, by rw [List.length_map, List.length_set]; exact ix_in (i := tj) (by omega), ?_⟩
      rw [set_ints, gj]
      have s05 := same_mut (o := .lst (((ps.set ti (ps.getD ti 0 + c)).set tj (ps.getD tj 0 + c)).map V.int)) s04 hD
      have hpl5 : (upd H4 D (.lst (((ps.set ti (ps.getD ti 0 + c)).set tj (ps.getD tj 0 + c)).map V.int))) pl = some (.tup [.int l.1, .int l.2]) := by rw [upd_ne ndp]; exact hpl4
      have hD5 : (upd H4 D (.lst (((ps.set ti (ps.getD ti 0 + c)).set tj (ps.getD tj 0 + c)).map V.int))) D = _ := upd_same
      revert s05 hpl5 hD5 hk
      have g5 : ((ps.set ti (ps.getD ti 0 + c)).set tj (ps.getD tj 0 + c)).getD ti 0 = ps.getD ti 0 + c := by rw [getD_set (by rw [List.length_set]; omega), if_neg (Ne.symm nij), getD_set (by omega), if_pos rfl]
      have g6 : ((ps.set ti (ps.getD ti 0 + c)).set tj (ps.getD tj 0 + c)).getD tj 0 = ps.getD tj 0 + c := by rw [getD_set (by rw [List.length_set]; omega), if_pos rfl]
      have l5 : ((ps.set ti (ps.getD ti 0 + c)).set tj (ps.getD tj 0 + c)).length = row.length := by rw [List.length_set, List.length_set]; exact hlen
      revert g5 g6 l5
      generalize ((ps.set ti (ps.getD ti 0 + c)).set tj (ps.getD tj 0 + c)) = qs
      generalize (upd H4 D (.lst (qs.map V.int))) = H5
      intro g5 g6 l5 hk s05 hpl5 hD5
      have hE5 := same_t s05 hE
      have hS5 := same_l s05 hS
      -- none over
      walk_at "go"
      refine ⟨e, _, _, _, rfl, rfl, hE5, atI_nat (j := 0) rfl, ?_⟩
      refine ⟨D, _, _, _, rfl, rfl, SqL.of hD5, at_int (by omega), ?_⟩
      walk_at "go"
      refine ⟨e, _, _, _, rfl, rfl, hE5, atI_nat (j := 0) rfl, ?_⟩
      refine ⟨a, _, _, _, rfl, rfl, hS5, at_int (by omega), ?_⟩
      walk_at "go"
      rw [decide_eq_false (show ¬ row.getD ti 0 < qs.getD ti 0 by omega)]
      walk_at "go"
      refine ⟨e, _, _, _, rfl, rfl, hE5, atI_nat (j := 1) rfl, ?_⟩
      refine ⟨D, _, _, _, rfl, rfl, SqL.of hD5, at_int (i := tj) (by omega), ?_⟩
      walk_at "go"
      refine ⟨e, _, _, _, rfl, rfl, hE5, atI_nat (j := 1) rfl, ?_⟩
      refine ⟨a, _, _, _, rfl, rfl, hS5, at_int (i := tj) (by omega), ?_⟩
      walk_at "go"
      rw [decide_eq_false (show ¬ -row.getD tj 0 < qs.getD tj 0 by omega)]
      walk_at "go"
      refine ⟨e, _, _, _, rfl, rfl, hE5, atI_nat (j := 0) rfl, ?_⟩
      walk_at "go"
      refine ⟨e, _, _, _, rfl, rfl, hE5, atI_nat (j := 1) rfl, ?_⟩
      walk_at "go"
      intro p6 hp6
      have nd6 : D ≠ p6 := ne_of_none hD5 hp6
      exact ⟨qs, p6, ((ti : Int), (tj : Int)), _, rfl, s05.trans (same_new hp6), by rw [upd_ne nd6]; exact hD5, upd_same, l5, hk⟩
    · rintro σ H2 ⟨ps, pl, l, v4, rfl, s2, _⟩
      have hS2 := same_l s2 hS
      walk_at "go"
      refine ⟨⟨_, hS2⟩, fun D2 hD2 => ?_⟩
      refine lcI_filter (fun x => decide (0 < x)) (fun x => x) hz hS2 hD2 (fun x H3 R s3 k => ?_) (fun x H3 R s3 k => ?_) (fun H3 s3 hd3 => ?_)
      · walk_at "go"
        exact k
      · exact ⟨_, rfl, k⟩
      rw [List.map_id'] at hd3
      walk_at "go"
      refine ⟨D2, _, rfl, SqL.of hd3, ?_⟩
      have hS3 := same_l s3 hS2
      walk_at "go"
      refine ⟨⟨_, hS3⟩, fun D4 hD4 => ?_⟩
      refine lcI_filter (fun x => decide (x < 0)) (fun x => -x) hz hS3 hD4 (fun x H5 R s5 k => ?_) (fun x H5 R s5 k => ?_) (fun H5 s5 hd5 => ?_)
      · walk_at "go"
        exact k
      · walk_at "go"
        exact k
      walk_at "go"
      refine ⟨D4, _, rfl, SqL.of hd5, ?_⟩
      have s6 := (s2.trans s3).trans s5
      have hB6 := same_l s6 hB
      walk_at "go"
      refine ⟨⟨_, hB6⟩, fun D7 hD7 => ?_⟩
      refine lcD_list (fp := fun _ => False) ((ts.map fun t => t.2.2).map PyData.int) (by simpa using hxl) (by simpa using hzt) hB6 hD7 has_none (fun i x d H8 R hx hd s8 _ k => ?_) (fun H8 ys s8 hd8 r8 _ => ?_)
      · obtain ⟨d', hdi, hdx⟩ := hX.got hx
        rw [List.getElem?_map] at hdi
        rw [List.getElem?_map, List.getElem?_map] at hd
        cases e : ts[i]? with
        | none => rw [e] at hd; cases hd
        | some t =>
          rw [e] at hd hdi
          have hdi := Option.some.inj hdi
          have hd := Option.some.inj hd
          subst hdi hd
          obtain ⟨e, rfl, hE⟩ := tri_inv hdx
          walk_at "go"
          refine ⟨e, _, _, _, rfl, rfl, same_t (s6.trans s8) hE, atI_nat (j := 2) rfl, ?_⟩
          exact k _ _ (Same.refl _) (.int _)
      have hy := dpAll_ints_inv r8
      subst hy
      walk_at "go"
      refine ⟨D7, _, rfl, SqL.of hd8, ?_⟩
      walk_at "go"
      rw [hsum]
      have em : ∀ x y : Int, (if y < x then y else x) = min x y := fun x y => by split <;> omega
      have fin := q H8 (s6.trans s8)
      have e2 : decide (V.int (min (row.filter fun x => decide (0 < x)).sum ((row.filter fun x => decide (x < 0)).map fun x => -x).sum) = V.int (if ((row.filter fun x => decide (x < 0)).map fun x => -x).sum < (row.filter fun x => decide (0 < x)).sum then ((row.filter fun x => decide (x < 0)).map fun x => -x).sum else (row.filter fun x => decide (0 < x)).sum)) = true := by
        rw [em]
        exact decide_eq_true rfl
      rw [e2]
      exact fin
end
section
variable {P : Program} {w : World} {K : PySem.W.Frag} {mg : Str → Option Value} {base : Heap}
/-! ### the program's matched -/
theorem none_back' {H H' : Hp} {a : Addr} (e : Same H H') (h : H' a = none) : H a = none := by
  cases x : H a with
  | none => rfl
  | some u => rw [e a u x] at h; cases h
theorem mgo_cons {i j : Nat} {d c : Int} {ds cs : List (Nat × Int)} : mgo ((i, d) :: ds) ((j, c) :: cs) = if d < c then (i, j, d) :: mgo ds ((j, c - d) :: cs) else if c < d then (i, j, c) :: mgo ((i, d - c) :: ds) cs else (i, j, d) :: mgo ds cs := by
  conv => lhs; unfold mgo
theorem debts_places : ∀ (row : List Int) (k : Nat), (debtsFrom k row).map (·.1) = placesOf (fun x => decide (0 < x)) k row
  | [], _ => rfl
  | x :: r, k => by
    have ih := debts_places r (k + 1)
    unfold debtsFrom placesOf
    by_cases h : 0 < x
    · rw [if_pos h, if_pos (decide_eq_true h), List.map_cons, ih]
    · rw [if_neg h, if_neg (by simpa using h), ih]
theorem covers_places : ∀ (row : List Int) (k : Nat), (coversFrom k row).map (·.1) = placesOf (fun x => decide (x < 0)) k row
  | [], _ => rfl
  | x :: r, k => by
    have ih := covers_places r (k + 1)
    unfold coversFrom placesOf
    by_cases h : x < 0
    · rw [if_pos h, if_pos (decide_eq_true h), List.map_cons, ih]
    · rw [if_neg h, if_neg (by simpa using h), ih]
theorem debts_at : ∀ (row : List Int) (k : Nat), ∀ q ∈ debtsFrom k row, q.1 < k + row.length ∧ row.getD (q.1 - k) 0 = q.2
  | [], _, q, h => by cases h
  | x :: r, k, q, h => by
    unfold debtsFrom at h
    have go : q ∈ debtsFrom (k + 1) r → q.1 < k + (x :: r).length ∧ (x :: r).getD (q.1 - k) 0 = q.2 := fun h => by
      obtain ⟨h1, h2⟩ := debts_at r (k + 1) q h
      have h3 := (debts_ge r (k + 1) q h).1
      refine ⟨by simp only [List.length_cons]; omega, ?_⟩
      have e : q.1 - k = (q.1 - (k + 1)) + 1 := by omega
      rw [e, List.getD_cons_succ]
      exact h2
    split at h
    · rcases List.mem_cons.mp h with rfl | h
      · exact ⟨by simp only [List.length_cons]; omega, by simp⟩
      · exact go h
    · exact go h
theorem covers_at : ∀ (row : List Int) (k : Nat), ∀ q ∈ coversFrom k row, q.1 < k + row.length ∧ row.getD (q.1 - k) 0 = -q.2
  | [], _, q, h => by cases h
  | x :: r, k, q, h => by
    unfold coversFrom at h
    have go : q ∈ coversFrom (k + 1) r → q.1 < k + (x :: r).length ∧ (x :: r).getD (q.1 - k) 0 = -q.2 := fun h => by
      obtain ⟨h1, h2⟩ := covers_at r (k + 1) q h
      have h3 := (covers_ge r (k + 1) q h).1
      refine ⟨by simp only [List.length_cons]; omega, ?_⟩
      have e : q.1 - k = (q.1 - (k + 1)) + 1 := by omega
      rw [e, List.getD_cons_succ]
      exact h2
    split at h
    · rcases List.mem_cons.mp h with rfl | h
      · exact ⟨by simp only [List.length_cons]; omega, by simp⟩
      · exact go h
    · exact go h
/-- what is left at the places -/
def placed (lf : List Int) (l : List (Nat × Int)) : List (Nat × Int) := l.map fun q => (q.1, lf.getD q.1 0)
theorem placed_set {lf : List Int} {l : List (Nat × Int)} {i : Nat} {v : Int} (h : ∀ q ∈ l, q.1 ≠ i) : placed (lf.set i v) l = placed lf l := by
  unfold placed
  refine List.map_congr_left fun q hq => ?_
  rw [List.getD_eq_getElem?_getD, List.getElem?_set_ne (Ne.symm (h q hq)), ← List.getD_eq_getElem?_getD]
/-- between two triples of the program's walk -/
structure PInv (row lf : List Int) (nd nc : Nat) (acc : List Tri) : Prop where
  ll : lf.length = row.length
  ld : nd ≤ (debtsFrom 0 row).length
  lc : nc ≤ (coversFrom 0 row).length
  eq : matchL row = acc ++ mgo (placed lf ((debtsFrom 0 row).drop nd)) (placed lf ((coversFrom 0 row).drop nc))
  pd : ∀ q ∈ (debtsFrom 0 row).drop nd, 0 < lf.getD q.1 0
  pc : ∀ q ∈ (coversFrom 0 row).drop nc, 0 < lf.getD q.1 0
  la : acc.length ≤ nd + nc
theorem pinv_0 (row : List Int) : PInv row (row.map fun i => if i < 0 then -i else i) 0 0 [] := by
  have g : ∀ k, k < row.length → (row.map fun i => if i < 0 then -i else i).getD k 0 = if row.getD k 0 < 0 then -row.getD k 0 else row.getD k 0 := fun k hk => by
    rw [List.getD_eq_getElem?_getD, List.getElem?_map, List.getD_eq_getElem?_getD, List.getElem?_eq_getElem hk]; rfl
  have hd : ∀ q ∈ debtsFrom 0 row, (row.map fun i => if i < 0 then -i else i).getD q.1 0 = q.2 := fun q hq => by
    obtain ⟨h1, h2⟩ := debts_at row 0 q hq
    have h3 := (debts_ge row 0 q hq).2
    rw [Nat.sub_zero] at h2
    rw [g _ (by omega), h2, if_neg (by omega)]
  have hc : ∀ q ∈ coversFrom 0 row, (row.map fun i => if i < 0 then -i else i).getD q.1 0 = q.2 := fun q hq => by
    obtain ⟨h1, h2⟩ := covers_at row 0 q hq
    have h3 := (covers_ge row 0 q hq).2
    rw [Nat.sub_zero] at h2
    rw [g _ (by omega), h2, if_pos (by omega)]
    omega
  have e1 : placed (row.map fun i => if i < 0 then -i else i) (debtsFrom 0 row) = debtsFrom 0 row := by
    unfold placed
    rw [List.map_congr_left (g := id) fun q hq => by rw [hd q hq]; rfl, List.map_id]
  have e2 : placed (row.map fun i => if i < 0 then -i else i) (coversFrom 0 row) = coversFrom 0 row := by
    unfold placed
    rw [List.map_congr_left (g := id) fun q hq => by rw [hc q hq]; rfl, List.map_id]
  refine ⟨List.length_map _, Nat.zero_le _, Nat.zero_le _, ?_, fun q hq => ?_, fun q hq => ?_, Nat.le_refl _⟩
  · rw [List.drop_zero, List.drop_zero, e1, e2]; rfl
  · rw [List.drop_zero] at hq
    rw [hd q hq]; exact (debts_ge row 0 q hq).2
  · rw [List.drop_zero] at hq
    rw [hc q hq]; exact (covers_ge row 0 q hq).2
theorem asc_ne : ∀ {l : List (Nat × Int)} {n : Nat} {q : Nat × Int}, Asc l → l[n]? = some q → ∀ r ∈ l.drop (n + 1), r.1 ≠ q.1
  | [], _, _, _, h, _, _ => by simp at h
  | p :: l, 0, q, a, h, r, hr => by
    have h := Option.some.inj h
    subst h
    have := a.1 r hr
    omega
  | p :: l, n + 1, q, a, h, r, hr => asc_ne (l := l) (n := n) a.2 h r hr
theorem drop_at {α : Type} {l : List α} {n : Nat} {x : α} (h : l[n]? = some x) : l.drop n = x :: l.drop (n + 1) := by
  obtain ⟨hn, e⟩ := List.getElem?_eq_some_iff.mp h
  rw [List.drop_eq_getElem_cons hn, e]
theorem getD_set2 {ps : List Int} {i k : Nat} {v : Int} (h : i < ps.length) : (ps.set i v).getD k 0 = if i = k then v else ps.getD k 0 := by
  rw [List.getD_eq_getElem?_getD, List.getD_eq_getElem?_getD]
  by_cases e : i = k
  · subst e; rw [if_pos rfl, List.getElem?_set_self h]; rfl
  · rw [if_neg e, List.getElem?_set_ne e]
/-- one triple -/
theorem pinv_step {row lf : List Int} {nd nc : Nat} {acc : List Tri} {i j : Nat} {d c p : Int} {x y : Int} (I : PInv row lf nd nc acc) (hi : (debtsFrom 0 row)[nd]? = some (i, x)) (hj : (coversFrom 0 row)[nc]? = some (j, y))
    (ed : lf.getD i 0 = d) (ec : lf.getD j 0 = c) (ep : p = if c < d then c else d) :
    i < row.length ∧ j < row.length ∧ i ≠ j ∧ PInv row ((lf.set i (d - p)).set j (c - p)) (if d - p = 0 then nd + 1 else nd) (if c - p = 0 then nc + 1 else nc) (acc ++ [(i, j, p)]) := by
  have mi := List.mem_of_getElem? hi
  have mj := List.mem_of_getElem? hj
  obtain ⟨i1, i2⟩ := debts_at row 0 _ mi
  obtain ⟨j1, j2⟩ := covers_at row 0 _ mj
  have i3 := (debts_ge row 0 _ mi).2
  have j3 := (covers_ge row 0 _ mj).2
  rw [Nat.sub_zero] at i2 j2
  simp only [Nat.zero_add] at i1 j1 i2 j2 i3 j3
  have nij : i ≠ j := fun e => by subst e; omega
  have dd := drop_at hi
  have dc := drop_at hj
  have pd : 0 < d := by
    have := I.pd (i, x) (by rw [dd]; exact List.mem_cons_self)
    rw [← ed]; exact this
  have pc : 0 < c := by
    have := I.pc (j, y) (by rw [dc]; exact List.mem_cons_self)
    rw [← ec]; exact this
  have nd1 : ∀ q ∈ (debtsFrom 0 row).drop (nd + 1), q.1 ≠ i := asc_ne (debts_asc row 0) hi
  have nc1 : ∀ q ∈ (coversFrom 0 row).drop (nc + 1), q.1 ≠ j := asc_ne (covers_asc row 0) hj
  have nd2 : ∀ q ∈ (debtsFrom 0 row).drop (nd + 1), q.1 ≠ j := fun q hq e => by
    have h1 := debts_at row 0 q (List.mem_of_mem_drop hq)
    have h2 := (debts_ge row 0 q (List.mem_of_mem_drop hq)).2
    rw [Nat.sub_zero, e] at h1
    omega
  have nc2 : ∀ q ∈ (coversFrom 0 row).drop (nc + 1), q.1 ≠ i := fun q hq e => by
    have h1 := covers_at row 0 q (List.mem_of_mem_drop hq)
    have h2 := (covers_ge row 0 q (List.mem_of_mem_drop hq)).2
    rw [Nat.sub_zero, e] at h1
    omega
  have ed1 : placed ((lf.set i (d - p)).set j (c - p)) ((debtsFrom 0 row).drop (nd + 1)) = placed lf ((debtsFrom 0 row).drop (nd + 1)) := by rw [placed_set nd2, placed_set nd1]
  have ec1 : placed ((lf.set i (d - p)).set j (c - p)) ((coversFrom 0 row).drop (nc + 1)) = placed lf ((coversFrom 0 row).drop (nc + 1)) := by rw [placed_set nc1, placed_set nc2]
  have li : i < lf.length := by rw [I.ll]; exact i1
  have lj : j < lf.length := by rw [I.ll]; exact j1
  have g : ∀ k, ((lf.set i (d - p)).set j (c - p)).getD k 0 = if j = k then c - p else if i = k then d - p else lf.getD k 0 := fun k => by
    rw [getD_set2 (by rw [List.length_set]; exact lj), getD_set2 li]
  have gi : ((lf.set i (d - p)).set j (c - p)).getD i 0 = d - p := by rw [g, if_neg (Ne.symm nij), if_pos rfl]
  have gj : ((lf.set i (d - p)).set j (c - p)).getD j 0 = c - p := by rw [g, if_pos rfl]
  have pl : ∀ (q : Nat × Int) (l : List (Nat × Int)), placed ((lf.set i (d - p)).set j (c - p)) (q :: l) = (q.1, ((lf.set i (d - p)).set j (c - p)).getD q.1 0) :: placed ((lf.set i (d - p)).set j (c - p)) l := fun _ _ => rfl
  have e0 := I.eq
  rw [dd, dc] at e0
  have e0 : matchL row = acc ++ mgo ((i, lf.getD i 0) :: placed lf ((debtsFrom 0 row).drop (nd + 1))) ((j, lf.getD j 0) :: placed lf ((coversFrom 0 row).drop (nc + 1))) := e0
  rw [ed, ec] at e0
  have sd : ∀ q ∈ (debtsFrom 0 row).drop (nd + 1), 0 < ((lf.set i (d - p)).set j (c - p)).getD q.1 0 := fun q hq => by
    rw [g, if_neg (Ne.symm (nd2 q hq)), if_neg (Ne.symm (nd1 q hq))]
    exact I.pd q (by rw [dd]; exact List.mem_cons_of_mem _ hq)
  have sc : ∀ q ∈ (coversFrom 0 row).drop (nc + 1), 0 < ((lf.set i (d - p)).set j (c - p)).getD q.1 0 := fun q hq => by
    rw [g, if_neg (Ne.symm (nc1 q hq)), if_neg (Ne.symm (nc2 q hq))]
    exact I.pc q (by rw [dc]; exact List.mem_cons_of_mem _ hq)
  have ln := (List.getElem?_eq_some_iff.mp hi).1
  have lm := (List.getElem?_eq_some_iff.mp hj).1
  refine ⟨i1, j1, nij, by rw [List.length_set, List.length_set]; exact I.ll, by split <;> omega, by split <;> omega, ?_, fun q hq => ?_, fun q hq => ?_, ?_⟩
  · rw [e0]
    rw [List.append_assoc]
    congr 1
    rw [mgo_cons]
    by_cases h1 : d < c
    · have p1 : p = d := by rw [ep, if_neg (by omega)]
      rw [if_pos h1, if_pos (show d - p = 0 by omega), if_neg (show ¬ c - p = 0 by omega), dc, pl, ed1, ec1, gj, p1]
      rfl
    · by_cases h2 : c < d
      · have p1 : p = c := by rw [ep, if_pos h2]
        rw [if_neg h1, if_pos h2, if_neg (show ¬ d - p = 0 by omega), if_pos (show c - p = 0 by omega), dd, pl, ed1, ec1, gi, p1]
        rfl
      · have p1 : p = d := by rw [ep, if_neg h2]
        rw [if_neg h1, if_neg h2, if_pos (show d - p = 0 by omega), if_pos (show c - p = 0 by omega), ed1, ec1, p1]
        rfl
  · split at hq
    · exact sd q hq
    · rw [dd] at hq
      rcases List.mem_cons.mp hq with rfl | hq
      · rw [gi]
        have : p ≤ d := by rw [ep]; split <;> omega
        omega
      · exact sd q hq
  · split at hq
    · exact sc q hq
    · rw [dc] at hq
      rcases List.mem_cons.mp hq with rfl | hq
      · rw [gj]
        have : p ≤ c := by rw [ep]; split <;> omega
        omega
      · exact sc q hq
  · have := I.la
    rw [List.length_append]
    have hp : d - p = 0 ∨ c - p = 0 := by
      rw [ep]; split
      · right; omega
      · left; omega
    simp only [List.length_cons, List.length_nil]
    split <;> split <;> omega
theorem pinv_end {row lf : List Int} {nd nc : Nat} {acc : List Tri} (I : PInv row lf nd nc acc) (h : ¬ (nd < (debtsFrom 0 row).length ∧ nc < (coversFrom 0 row).length)) : matchL row = acc := by
  rw [I.eq]
  have e : mgo (placed lf ((debtsFrom 0 row).drop nd)) (placed lf ((coversFrom 0 row).drop nc)) = [] := by
    by_cases h1 : nd < (debtsFrom 0 row).length
    · rw [show (coversFrom 0 row).drop nc = [] from List.drop_eq_nil_of_le (by omega)]
      show mgo _ [] = []
      cases placed lf ((debtsFrom 0 row).drop nd) <;> (unfold mgo; rfl)
    · rw [show (debtsFrom 0 row).drop nd = [] from List.drop_eq_nil_of_le (by omega)]
      show mgo [] _ = []
      unfold mgo; rfl
  rw [e, List.append_nil]
/-- at the turns of the walk -/
def MW (K : PySem.W.Frag) (fp : Addr → Prop) (H : Hp) (a D1 D2 D3 L : Addr) (row : List Int) : Nat → L2.St → Hp → Prop := fun m σ H' =>
  ∃ (nd nc : Nat) (lf : List Int) (acc : List Tri) (ts : List V) (v7 v8 v9 : Option V), σ = [some (.ref a), some (.ref D1), some (.ref D2), some (.ref D3), some (.ref L), some (.int (nd : Nat)), some (.int (nc : Nat)), v7, v8, v9, none, none] ∧
      m = ((debtsFrom 0 row).length - nd) + ((coversFrom 0 row).length - nc) ∧ Same H H' ∧ H' D1 = some (.lst ((placesOf (fun x => decide (0 < x)) 0 row).map fun k : Nat => V.int (k : Nat))) ∧ H' D2 = some (.lst ((placesOf (fun x => decide (x < 0)) 0 row).map fun k : Nat => V.int (k : Nat))) ∧
      H' D3 = some (.lst (lf.map V.int)) ∧ H' L = some (.lst ts) ∧ DpAll K (off (And1 (And1 fp L) D3) H') ts (acc.map triD) ∧ PInv row lf nd nc acc
abbrev N_matched : List Str := ["changes", "debts", "covers", "left", "triples", "next_debt", "next_cover", "debt", "cover", "part", "cents", "place"]
abbrev P_matched : List Str := ["changes"]
theorem sc_matched : FnScope N_matched P_matched (defScope s_matched) := ⟨rfl, rfl, rfl, by decide +kernel, rfl, by decide +kernel, by decide +kernel⟩
/-- matched(changes): the triples of point 11, a new list of new tuples -/
def sp_matched (K : PySem.W.Frag) : Sp := fun vs H Q _ => ∃ (a : Addr) (row : List Int) (fp : Addr → Prop), vs = [.ref a] ∧ SqL K H a (row.map V.int) ∧ row.length ≤ 20000 ∧ Has fp H ∧
  ∀ p H' xs, Same H H' → H p = none → H' p = some (.lst xs) → DpAll K (off (And1 fp p) H') xs ((matchL row).map triD) → Q (.ref p) H'
theorem c_matched (T : Blt mg) (T2 : Bl2 mg) (D : DefAt K mg "matched" s_matched P_matched) : Cal P w K mg base CX0 5 "matched" P_matched (sp_matched K) := by
  refine (cal_of (k := 0) D sc_matched (fun vs H Q E h => ?_) (fun f cdv A outer s H vs Q E hr h => ?_)).mono (by decide)
  · obtain ⟨a, row, fp, rfl, _⟩ := h
    rfl
  · obtain ⟨a, row, fp, rfl, hS, hl, hf, q⟩ := h
    refine ⟨_, (pss_cons (ps_setLc (i := 1) (own := [("place", 11), ("cents", 10)]) (g := gTup K 2 (gCons (gName 11) (gCons (gName 10) gNil))) rfl sc_matched.nd rfl rfl (sw_true rfl rfl rfl (by decide +kernel)) (pi_enum (by rfl) T2.m_enumerate (pa_cons (pv 0) pa_nil)) (blkOk_by (N := N_matched) (sc := defScope s_matched) (by decide +kernel)) (fun _ _ _ _ _ => pg_tup rfl (pgs_cons (pg_name (i := 11) sc_matched.nd rfl (Or.inl rfl)) (pgs_cons (pg_name (i := 10) sc_matched.nd rfl (Or.inl rfl)) pgs_nil))) (fun _ _ _ _ _ => pts_one (pt_cmpR op_gt (pv 10) pe_int (nomark _))) (fun _ _ _ _ _ => (pv 11)))
      (pss_cons (ps_setLc (i := 2) (own := [("place", 11), ("cents", 10)]) (g := gTup K 2 (gCons (gName 11) (gCons (gName 10) gNil))) rfl sc_matched.nd rfl rfl (sw_true rfl rfl rfl (by decide +kernel)) (pi_enum (by rfl) T2.m_enumerate (pa_cons (pv 0) pa_nil)) (blkOk_by (N := N_matched) (sc := defScope s_matched) (by decide +kernel)) (fun _ _ _ _ _ => pg_tup rfl (pgs_cons (pg_name (i := 11) sc_matched.nd rfl (Or.inl rfl)) (pgs_cons (pg_name (i := 10) sc_matched.nd rfl (Or.inl rfl)) pgs_nil))) (fun _ _ _ _ _ => pts_one (pt_cmpR op_lt (pv 10) pe_int (nomark _))) (fun _ _ _ _ _ => (pv 11)))
      (pss_cons (ps_setLc (i := 3) (own := [("cents", 10)]) (g := gName 10) (tt := tYes) rfl sc_matched.nd rfl rfl (sw_true rfl rfl rfl (by decide +kernel)) (ki_list K (pv 0)) (blkOk_by (N := N_matched) (sc := defScope s_matched) (by decide +kernel)) (fun _ _ _ _ _ => pg_name (i := 10) sc_matched.nd rfl (Or.inl rfl)) (fun _ _ _ _ _ => pts_nil) (fun _ _ _ _ _ => (pe_callB call_abs (by rfl) T.m_abs (by decide +kernel) (pa_cons (pv 10) pa_nil))))
      (pss_cons (ps_set (i := 4) sc_matched.nd rfl (Or.inl rfl) (pe_lst pa_nil))
      (pss_cons (ps_set (i := 5) sc_matched.nd rfl (Or.inl rfl) pe_int)
      (pss_cons (ps_set (i := 6) sc_matched.nd rfl (Or.inl rfl) pe_int)
      (pss_cons (ps_while PassesOwn.never (PW.pt (pw_and (pt_cmpR op_lt (pv 5) (pe_callB (kc_len K) (by rfl) T.m_len PySem.boot_len (pa_cons (pv 1) pa_nil)) (nomark _)) (pw_and1 (pt_cmpR op_lt (pv 6) (pe_callB (kc_len K) (by rfl) T.m_len PySem.boot_len (pa_cons (pv 2) pa_nil)) (nomark _)))))
        (pss_cons (ps_set (i := 7) sc_matched.nd rfl (Or.inl rfl) (pe_ix (kx_list K) (pv 1) (pv 5) (fun _ _ => rfl)))
        (pss_cons (ps_set (i := 8) sc_matched.nd rfl (Or.inl rfl) (pe_ix (kx_list K) (pv 2) (pv 6) (fun _ _ => rfl)))
        (pss_cons (ps_set (i := 9) sc_matched.nd rfl (Or.inl rfl) (pe_callB (call_min2 rfl) (by rfl) T.m_min (by decide +kernel) (pa_cons (pe_ix (kx_list K) (pv 3) (pv 7) (fun _ _ => rfl)) (pa_cons (pe_ix (kx_list K) (pv 3) (pv 8) (fun _ _ => rfl)) pa_nil))))
        (pss_cons (ps_expr (pe_bm PySem.F.plainAttrs_list PySem.F.slot_list_append PySem.F.type_list_append mt_append (pv 4) (pa_cons (pe_tup (pa_cons (pv 7) (pa_cons (pv 8) (pa_cons (pv 9) pa_nil)))) pa_nil)))
        (pss_cons (ps_augS (pv 3) (pv 7) (kg_list K) (pv 9) ip_sub set_list)
        (pss_cons (ps_augS (pv 3) (pv 8) (kg_list K) (pv 9) ip_sub set_list)
        (Evl.pss_cut (ps_if (pt_cmpR op_eq (pe_ix (kx_list K) (pv 3) (pv 7) (fun _ _ => rfl)) pe_int (nomark _))
          (pss_one (ps_aug (i := 5) sc_matched.nd rfl (Or.inl rfl) pe_int ip_add))
          pss_nil)
        (pss_one (ps_if (pt_cmpR op_eq (pe_ix (kx_list K) (pv 3) (pv 8) (fun _ _ => rfl)) pe_int (nomark _))
          (pss_one (ps_aug (i := 6) sc_matched.nd rfl (Or.inl rfl) pe_int ip_add))
          pss_nil))))))))))
      (pss_one (ps_ret (pv 4)))))))))), ?_⟩
    walk_at "goz"
    refine ⟨a, _, rfl, hS, fun D1 h1 => ?_⟩
    refine lcE_filter (fun x => decide (0 < x)) (by decide) (by omega) hS h1 (fun k x H R s k2 => ?_) (fun k x H R s k2 => ?_) (fun H1 s1 e1 => ?_)
    · walk_at "goz"
      exact k2
    · walk_at "goz"
      exact k2
    walk_at "goz"
    refine ⟨a, _, rfl, same_l s1 hS, fun D2 h2 => ?_⟩
    refine lcE_filter (fun x => decide (x < 0)) (by decide) (by omega) (same_l s1 hS) h2 (fun k x H R s k2 => ?_) (fun k x H R s k2 => ?_) (fun H2 s2 e2 => ?_)
    · walk_at "goz"
      exact k2
    · walk_at "goz"
      exact k2
    have hS2 := same_l s2 (same_l s1 hS)
    walk_at "goz"
    refine ⟨⟨_, hS2⟩, fun D3 h3 => ?_⟩
    refine lcI_filter (fun _ => true) (fun i => if i < 0 then -i else i) (by omega) hS2 h3 (fun x H R s k => k) (fun x H R s k => ?_) (fun H3 s3 e3 => ?_)
    · walk_at "goz"
      exact k
    rw [List.filter_eq_self.mpr fun _ _ => rfl] at e3
    walk_at "goz"
    intro L h4
    walk_at "goz"
    have s03 : Same H H3 := s1.trans (s2.trans s3)
    have n1 : D1 ≠ L := ne_of_none (s3 _ _ (s2 _ _ e1)) h4
    have n2 : D2 ≠ L := ne_of_none (s3 _ _ e2) h4
    have n3 : D3 ≠ L := ne_of_none e3 h4
    have n13 : D1 ≠ D3 := ne_of_none (s2 _ _ e1) h3
    have n23 : D2 ≠ D3 := ne_of_none e2 h3
    have o3 : H D3 = none := none_back' (s1.trans s2) h3
    have o4 : H L = none := none_back' s03 h4
    refine ⟨MW K fp H a D1 D2 D3 L row,
      ⟨_, 0, 0, _, [], [], none, none, none, rfl, rfl, same_mut s03 o4, by rw [upd_ne n1]; exact s3 _ _ (s2 _ _ e1), by rw [upd_ne n2]; exact s3 _ _ e2, by rw [upd_ne n3]; exact e3, upd_same, .nil, pinv_0 row⟩, ?_⟩
    rintro m σ H' ⟨nd, nc, lf, acc, ts, v7, v8, v9, rfl, rfl, s', b1, b2, b3, b4, dt, I⟩
    have l1 : (debtsFrom 0 row).length = (placesOf (fun x => decide (0 < x)) 0 row).length := by rw [← debts_places, List.length_map]
    have l2 : (coversFrom 0 row).length = (placesOf (fun x => decide (x < 0)) 0 row).length := by rw [← covers_places, List.length_map]
    have fin : ¬ (nd < (debtsFrom 0 row).length ∧ nc < (coversFrom 0 row).length) → Q (.ref L) H' := fun h => by
      have e := pinv_end I h
      refine q L H' ts s' o4 b4 ?_
      rw [e]
      exact dt.same (off_less fun a z => .inl z)
    have zl : ∀ (c : Int → Bool), (((placesOf c 0 row).map fun k : Nat => V.int (k : Nat)).length : Nat) = (placesOf c 0 row).length := fun c => List.length_map _
    walk_at "goz"
    refine ite2 (fun h => ?_) (fun h => ?_)
    rotate_left
    · walk_at "goz"
      exact fin fun z => h (decide_eq_true (by rw [zl, ← l1]; omega))
    walk_at "goz"
    refine ite2 (fun g => ?_) (fun g => ?_)
    rotate_left
    · walk_at "goz"
      exact fin fun z => g (decide_eq_true (by rw [zl, ← l2]; omega))
    have h := of_decide_eq_true h
    have g := of_decide_eq_true g
    rw [zl, ← l1] at h
    rw [zl, ← l2] at g
    have h : nd < (debtsFrom 0 row).length := by omega
    have g : nc < (coversFrom 0 row).length := by omega
    obtain ⟨⟨i, x⟩, ei⟩ : ∃ q, (debtsFrom 0 row)[nd]? = some q := ⟨_, List.getElem?_eq_getElem h⟩
    obtain ⟨⟨j, y⟩, ej⟩ : ∃ q, (coversFrom 0 row)[nc]? = some q := ⟨_, List.getElem?_eq_getElem g⟩
    have ai : atI ((placesOf (fun x => decide (0 < x)) 0 row).map fun k : Nat => V.int (k : Nat)) (nd : Nat) = some (.int (i : Nat)) := atI_nat (by rw [← debts_places, List.map_map, List.getElem?_map, ei]; rfl)
    have aj : atI ((placesOf (fun x => decide (x < 0)) 0 row).map fun k : Nat => V.int (k : Nat)) (nc : Nat) = some (.int (j : Nat)) := atI_nat (by rw [← covers_places, List.map_map, List.getElem?_map, ej]; rfl)
    obtain ⟨li, lj, nij, I'⟩ := pinv_step I ei ej rfl rfl rfl
    have hi : i < lf.length := by rw [I.ll]; exact li
    have hj : j < lf.length := by rw [I.ll]; exact lj
    have gi : atI (lf.map V.int) (i : Nat) = some (.int (lf.getD i 0)) := at_int hi
    have gj : atI (lf.map V.int) (j : Nat) = some (.int (lf.getD j 0)) := at_int hj
    have nL3 := n3
    refine ⟨fun σ' H2 => ∃ m', m' < ((debtsFrom 0 row).length - nd) + ((coversFrom 0 row).length - nc) ∧ MW K fp H a D1 D2 D3 L row m' σ' H2, fun _ _ z => z, ?_⟩
    walk_at "goz"
    have mp : lf.getD i 0 - (if lf.getD j 0 < lf.getD i 0 then lf.getD j 0 else lf.getD i 0) = 0 ∨ lf.getD j 0 - (if lf.getD j 0 < lf.getD i 0 then lf.getD j 0 else lf.getD i 0) = 0 := by
      split
      · right; omega
      · left; omega
    generalize (if lf.getD j 0 < lf.getD i 0 then lf.getD j 0 else lf.getD i 0) = p at *
    refine ⟨.inl ⟨rfl, _, SqL.of b4⟩, ?_⟩
    walk_at "goz"
    intro t ht
    have st : Same H' (upd H' t (.tup [.int (i : Nat), .int (j : Nat), .int p])) := same_new ht
    have hf' : Has (And1 (And1 fp L) D3) H' := ((hf.same s').and1 (by rw [b4]; exact fun z => nomatch z)).and1 (by rw [b3]; exact fun z => nomatch z)
    have dnew : Dp K (off (And1 (And1 fp L) D3) (upd H' t (.tup [.int (i : Nat), .int (j : Nat), .int p]))) (.ref t) (triD (i, j, p)) := dp_tup_new hf' ht (.cons (.int _) (.cons (.int _) (.cons (.int _) .nil)))
    have dts := (dt.same (off_mono st)).append (.cons dnew .nil)
    have b1t := st _ _ b1
    have b2t := st _ _ b2
    have b3t := st _ _ b3
    have b4t := st _ _ b4
    have st' := s'.trans st
    generalize upd H' t (.tup [.int (i : Nat), .int (j : Nat), .int p]) = Ht at *
    have tl : ts.length = acc.length := by rw [dt.length, List.length_map]
    have la := I.la
    have zd := placesOf_len (fun x => decide (0 < x)) row 0
    have zc := placesOf_len (fun x => decide (x < 0)) row 0
    refine ⟨L, ts, _, rfl, rfl, b4t, Evl.sz_lt (by omega), ?_⟩
    have hAD := off_upd (H := Ht) (fp := And1 (And1 fp L) D3) (p := L) (o := .lst (ts ++ [.ref t])) (.inl (.inr rfl))
    have b5 : ∀ zs, upd (upd Ht L (.lst (ts ++ [.ref t]))) D3 (.lst zs) D3 = some (.lst zs) := fun zs => upd_same
    have b6 : upd Ht L (.lst (ts ++ [.ref t])) D3 = some (.lst (lf.map V.int)) := by rw [upd_ne n3]; exact b3t
    walk_at "goz"
    refine ⟨D3, _, _, _, rfl, rfl, SqL.of b6, by omega, gi, ?_⟩
    walk_at "goz"
    refine ⟨D3, _, _, i, rfl, rfl, b6, Evl.ixN_nat (by rw [List.length_map]; exact hi), ?_⟩
    rw [← List.map_set]
    walk_at "goz"
    have gj1 : atI ((lf.set i (lf.getD i 0 - p)).map V.int) (j : Nat) = some (.int (lf.getD j 0)) := by
      rw [at_int (by rw [List.length_set]; exact hj), getD_set2 hi, if_neg nij]
    refine ⟨D3, _, _, _, rfl, rfl, SqL.of upd_same, by omega, gj1, ?_⟩
    walk_at "goz"
    refine ⟨D3, _, _, j, rfl, rfl, upd_same, Evl.ixN_nat (by rw [List.length_map, List.length_set]; exact hj), ?_⟩
    rw [← List.map_set, upd_upd]
    have c1 : upd (upd Ht L (.lst (ts ++ [.ref t]))) D3 (.lst (((lf.set i (lf.getD i 0 - p)).set j (lf.getD j 0 - p)).map V.int)) D1 = some (.lst ((placesOf (fun x => decide (0 < x)) 0 row).map fun k : Nat => V.int (k : Nat))) := by rw [upd_ne n13, upd_ne n1]; exact b1t
    have c2 : upd (upd Ht L (.lst (ts ++ [.ref t]))) D3 (.lst (((lf.set i (lf.getD i 0 - p)).set j (lf.getD j 0 - p)).map V.int)) D2 = some (.lst ((placesOf (fun x => decide (x < 0)) 0 row).map fun k : Nat => V.int (k : Nat))) := by rw [upd_ne n23, upd_ne n2]; exact b2t
    have c3 : upd (upd Ht L (.lst (ts ++ [.ref t]))) D3 (.lst (((lf.set i (lf.getD i 0 - p)).set j (lf.getD j 0 - p)).map V.int)) D3 = some (.lst (((lf.set i (lf.getD i 0 - p)).set j (lf.getD j 0 - p)).map V.int)) := upd_same
    have c4 : upd (upd Ht L (.lst (ts ++ [.ref t]))) D3 (.lst (((lf.set i (lf.getD i 0 - p)).set j (lf.getD j 0 - p)).map V.int)) L = some (.lst (ts ++ [.ref t])) := by rw [upd_ne n3.symm]; exact upd_same
    have c5 : Same H (upd (upd Ht L (.lst (ts ++ [.ref t]))) D3 (.lst (((lf.set i (lf.getD i 0 - p)).set j (lf.getD j 0 - p)).map V.int))) := same_mut (same_mut st' o4) o3
    have c6 : DpAll K (off (And1 (And1 fp L) D3) (upd (upd Ht L (.lst (ts ++ [.ref t]))) D3 (.lst (((lf.set i (lf.getD i 0 - p)).set j (lf.getD j 0 - p)).map V.int)))) (ts ++ [.ref t]) ((acc ++ [(i, j, p)]).map triD) := by
      rw [off_upd (Or.inr rfl), hAD, List.map_append]
      exact dts
    generalize upd (upd Ht L (.lst (ts ++ [.ref t]))) D3 (.lst (((lf.set i (lf.getD i 0 - p)).set j (lf.getD j 0 - p)).map V.int)) = Hz at *
    have yi : ((lf.set i (lf.getD i 0 - p)).set j (lf.getD j 0 - p)).getD i 0 = lf.getD i 0 - p := by rw [getD_set2 (by rw [List.length_set]; exact hj), if_neg (Ne.symm nij), getD_set2 hi, if_pos rfl]
    have yj : ((lf.set i (lf.getD i 0 - p)).set j (lf.getD j 0 - p)).getD j 0 = lf.getD j 0 - p := by rw [getD_set2 (by rw [List.length_set]; exact hj), if_pos rfl]
    have zi := at_int (ns := (lf.set i (lf.getD i 0 - p)).set j (lf.getD j 0 - p)) (i := i) (by rw [List.length_set, List.length_set]; exact hi)
    have zj := at_int (ns := (lf.set i (lf.getD i 0 - p)).set j (lf.getD j 0 - p)) (i := j) (by rw [List.length_set, List.length_set]; exact hj)
    rw [yi] at zi
    rw [yj] at zj
    refine ⟨fun σ H2 => H2 = Hz ∧ σ = [some (.ref a), some (.ref D1), some (.ref D2), some (.ref D3), some (.ref L), some (.int (((if lf.getD i 0 - p = 0 then nd + 1 else nd) : Nat) : Int)), some (.int (nc : Nat)), some (.int (i : Nat)), some (.int (j : Nat)), some (.int p), none, none], ?_, ?_⟩
    · walk_at "goz"
      refine ite2 (fun h => ?_) (fun h => ?_)
      · have e : lf.getD i 0 - p = 0 := V.int.inj (of_decide_eq_true h)
        rw [if_pos e]
        walk_at "goz"
        first | exact ⟨rfl, rfl⟩ | exact rfl
      · have e : ¬ lf.getD i 0 - p = 0 := fun e => h (decide_eq_true (congrArg V.int e))
        rw [if_neg e]
        first | exact ⟨rfl, rfl⟩ | exact rfl
    rintro σ H2 ⟨rfl, rfl⟩
    walk_at "goz"
    have fin2 : ∀ n : Int, n = ((if lf.getD j 0 - p = 0 then nc + 1 else nc : Nat) : Int) → ∃ m', m' < ((debtsFrom 0 row).length - nd) + ((coversFrom 0 row).length - nc) ∧ MW K fp H a D1 D2 D3 L row m' [some (.ref a), some (.ref D1), some (.ref D2), some (.ref D3), some (.ref L), some (.int (((if lf.getD i 0 - p = 0 then nd + 1 else nd) : Nat) : Int)), some (.int n), some (.int (i : Nat)), some (.int (j : Nat)), some (.int p), none, none] H2 := fun n en => by
      rw [en]
      refine ⟨_, ?_, _, _, _, _, _, _, _, _, rfl, rfl, c5, c1, c2, c3, c4, c6, I'⟩
      rcases mp with e | e
      · rw [if_pos e]; split <;> omega
      · rw [if_pos e]; split <;> omega
    refine ite2 (fun h => ?_) (fun h => ?_)
    · have e : lf.getD j 0 - p = 0 := V.int.inj (of_decide_eq_true h)
      rw [if_pos e] at fin2
      walk_at "goz"
      exact fin2 _ rfl
    · have e : ¬ lf.getD j 0 - p = 0 := fun e => h (decide_eq_true (congrArg V.int e))
      rw [if_neg e] at fin2
      exact fin2 _ rfl
end
section
variable {P : Program} {w : World} {K : PySem.W.Frag} {mg : Str → Option Value} {base : Heap} {CL CO CB : Addr}
abbrev N_Book_settled : List Str := ["self", "order", "_", "cents"]
abbrev P_Book_settled : List Str := ["self", "order"]
theorem sc_Book_settled : FnScope N_Book_settled P_Book_settled (defScope s_Book_settled) := ⟨rfl, rfl, rfl, by decide +kernel, rfl, by decide +kernel, by decide +kernel⟩
def setD (m : Od) : List PyData := (matchL (m.rows.map fun r => r.2)).map triD
def sp_settled (R : BRep) (K : PySem.W.Frag) (cl : Str → Addr) : Sp := sp_lstOf R K cl setD
theorem row_dp {H : Hp} {v : V} {r : Str × Int} (h : Dp K H v (rowD r)) : ∃ p, v = .ref p ∧ SqT K H p [.str r.1, .int r.2] := by
  obtain ⟨p, x, y, rfl, s, h1, h2⟩ := tup2 h
  rw [dp_str h1, dp_int h2] at s
  exact ⟨p, rfl, s⟩
theorem B_settled {cl : Str → Addr} (Z : PF K CL CO CB) (T : Blt mg) (m_Book__found : MCal P w K mg base (L2.CX P w) 1 CB "_found" P_Book__found (sp_found K CL CO CB cl)) (c_matched : Cal P w K mg base CX0 5 "matched" P_matched (sp_matched K))
    (D : MAt K CB "settled" "Book.settled" s_Book_settled P_Book_settled) : BCal P w K mg base 6 CB "settled" P_Book_settled (sp_settled (theR K CL CO CB) K cl) := by
  refine (mcal_ofX Z.cB D sc_Book_settled (fun vs H Q E h => ?_) (fun f cdv A outer s H vs Q E hr h => ?_)).bcal (by decide)
  · obtain ⟨fp, b, S, n, rfl, _⟩ := h
    rfl
  · obtain ⟨fp, b, S, n, rfl, r, pz, q, qe⟩ := h
    refine ⟨_, (pss_one (ps_ret (pe_cal c_matched (hr.mono (by decide)) pass0 (pa_cons (pe_lc (own := [("_", 2), ("cents", 3)]) (g := gTup K 2 (gCons (gName 2) (gCons (gName 3) gNil))) (tt := tYes) rfl sc_Book_settled.nd (ki_list K (pe_fld (pe_m m_Book__found (pv 0) (hr.mono (by decide)) (passes_call (takes_of rfl rfl rfl rfl) fun _ _ _ _ z => z) (pa_cons (pv 1) pa_nil)) rfl)) (blkOk_by (N := N_Book_settled) (sc := defScope s_Book_settled) (by decide +kernel)) (fun _ _ _ _ _ => pg_tup rfl (pgs_cons (pg_name (i := 2) sc_Book_settled.nd rfl (Or.inl rfl)) (pgs_cons (pg_name (i := 3) sc_Book_settled.nd rfl (Or.inl rfl)) pgs_nil))) (fun _ _ _ _ _ => pts_nil) (fun _ _ _ _ _ => (pv 3))) pa_nil)))), ?_⟩
    obtain ⟨ES, dx, ol, dl, os, dv, A, hi⟩ := id r
    have hb := A.hb
    walk_at "gop"
    refine ⟨fp, b, S.M, ES, S.past, dx, ol, dl, os, dv, n, rfl, A, fun hin o eo => ?_, fun hno => qe hno H fp .refl (.refl H) r⟩
    obtain ⟨es, O⟩ := BookRep.ask r hin A eo
    have mm := List.mem_of_getElem? (at_ordAt (in_no hin).1 (in_no hin).2)
    have rl := hi.good.rl _ mm
    have oh := O.hd
    unfold odF at oh
    obtain ⟨cs, c1, c2⟩ := O.hc
    have lc := c2.length
    rw [List.length_map] at lc
    walk_at "gop"
    refine ⟨⟨_, SqL.of c1⟩, fun D hD => ?_⟩
    refine lc_list (K := K) (a := o.ch) (xs := cs) (fun i H' => Same H H' ∧ H' D = some (.lst ((((ordAt S.M n).rows.take i).map fun r => r.2).map V.int))) ⟨same_new hD, upd_same⟩ (fun i H' _ ⟨s, _⟩ => SqL.of (s _ _ c1)) ?_ ?_
    · rintro i x H' hx ⟨s1, hd⟩
      obtain ⟨d, hd2, dd⟩ := (c2.same s1).got hx
      rw [List.getElem?_map] at hd2
      cases e : (ordAt S.M n).rows[i]? with
      | none => rw [e] at hd2; cases hd2
      | some rw_ =>
        rw [e] at hd2
        have hd2 := Option.some.inj hd2
        subst hd2
        obtain ⟨p1, rfl, hp⟩ := row_dp dd
        have hi2 := (List.getElem?_eq_some_iff.mp e).1
        refine ⟨p1, _, rfl, hp, rfl, _, _, rfl, _, _, rfl, rfl, rfl, ?_⟩
        walk_at "gop"
        refine ⟨_, hd, Evl.sz_lt (by rw [List.length_map, List.length_map, List.length_take]; omega), same_mut s1 hD, ?_⟩
        rw [upd_same, take_succ' e, List.map_append, List.map_append]
        rfl
    rintro H1 ⟨s1, hd⟩
    rw [lc, List.take_length] at hd
    have r1 := BRep.same r s1
    walk_at "gop"
    refine ⟨D, _, fp, rfl, SqL.of hd, by rw [List.length_map]; omega, (theR K CL CO CB).has r1, fun p H2 xs s2 hp ep dx2 => ?_⟩
    exact q hin H2 fp p xs .refl (.same (s1.trans s2)) (BRep.same r1 s2) (none_back s1 hp) (fun z => (theR K CL CO CB).has r1 p z hp) ep dx2
end
section
variable {P : Program} {w : World} {K : PySem.W.Frag} {mg : Str → Option Value} {base : Heap} {CL CO CB : Addr}
theorem h_Line (Z : PF K CL CO CB) (g : mg "Line" = some (.ref CL)) (D : IAt K CL "Line.__init__" s_Line___init__ P_Line___init__) : MkCH P w K mg base 1 CL "Line" P_Line___init__ (sp_Line_init CL) := by
  refine mkc_ofH g D sc_Line___init__ (fun vs H Q E h => ?_) (fun f cdv A outer s H vs Q E pn HC hr h => ?_)
  · obtain ⟨x, dx, t, rfl, _⟩ := h
    rfl
  · obtain ⟨x, dx, t, rfl, h0, q⟩ := h
    refine ⟨_, (pss_cons (ps_fld (pv 0) (pv 1) rfl)
      (pss_cons (ps_fld (pv 0) (pv 2) rfl)
      (pss_cons (ps_fld (pv 0) (pv 3) rfl)
      (pss_cons (ps_fld (pv 0) (pv 4) rfl)
      (pss_cons (ps_fld (pv 0) pe_int rfl)
      (pss_cons (ps_fld (pv 0) pe_int rfl)
      (pss_cons (ps_fld (pv 0) pe_int rfl)
      (pss_one (ps_fld (pv 0) pe_int rfl))))))))), ?_⟩
    have go : ∀ (fs : List (Str × V)), upd H x (.ins CL dx fs) x = some (.ins CL dx fs) := fun _ => upd_same
    walk_at "gop"
    refine ⟨x, CL, dx, _, rfl, h0, Z.cL, Z.nL _ (by decide), lt1000, ?_⟩
    iterate 7
      walk_at "gop"
      refine ⟨x, CL, dx, _, rfl, upd_same, Z.cL, Z.nL _ (by decide), lt1000, ?_⟩
      rw [upd_upd]
    exact q
theorem h_is_item (T : Blt mg) (T2 : Bl2 mg) (CS : Consts mg) (D : DefAt K mg "is_item" s_is_item P_is_item) : CalH P w K mg base 1 "is_item" P_is_item sp_is_item := by
  refine cal_ofH D sc_is_item (fun vs H Q E h => ?_) (fun f cdv A outer s H vs Q E pn HC hr h => ?_)
  · obtain ⟨z, rfl, _⟩ := h
    rfl
  · obtain ⟨z, rfl, hz, q⟩ := h
    refine ⟨_, (pss_one (ps_ret (pe_and (pe_chain op_le op_le pe_int (pe_callB call_len_str (by rfl) T.m_len PySem.boot_len (pa_cons (pv 0) pa_nil)) (pe_gint CS.k_MOST_LETTERS)) (pe_one (pe_callB (kc_allH K HC) (by rfl) T2.m_all (by decide +kernel) (pa_cons (pe_lcH (own := [("sign", 1)]) (g := gName 1) (tt := tYes) HC sc_is_item.nd (pi_strH (pv 0)) (blkOk_by (N := N_is_item) (sc := defScope s_is_item) (by decide +kernel)) (fun _ _ _ _ _ => pg_name (i := 1) sc_is_item.nd rfl (Or.inl rfl)) (fun _ _ _ _ _ => pts_nil) (fun _ _ _ _ _ => (pe_chain op_le_str op_le_str pe_str (pv 1) pe_str))) pa_nil)))))), ?_⟩
    have hz2 : z.length ≤ sizeLine := Evl.sz_of (by omega)
    walk_at "gop"
    have e0 : itemOk z = (decide ((1 : Int) ≤ (z.length : Nat)) && (decide (((z.length : Nat) : Int) ≤ 12) && z.cps.toList.all fun c => decide (97 ≤ c) && decide (c ≤ 122))) := by
      unfold itemOk
      rw [show decide ((1 : Int) ≤ (z.length : Nat)) = decide (1 ≤ z.length) from decide_eq_decide.mpr (by omega), show decide (((z.length : Nat) : Int) ≤ 12) = decide (z.length ≤ 12) from decide_eq_decide.mpr (by omega), Bool.and_assoc]
    rw [e0] at q
    refine ite2 (fun h => ?_) (fun h => ?_)
    rotate_left
    · rw [bfalse h] at q
      walk_at "gop"
      exact q H (Same.refl _)
    rw [h] at q
    walk_at "gop"
    refine ite2 (fun h => ?_) (fun h => ?_)
    rotate_left
    · rw [bfalse h] at q
      exact q H (Same.refl _)
    rw [h] at q
    walk_at "gop"
    intro D1 h1
    refine lcS_bool (fun c => decide (97 ≤ c) && decide (c ≤ 122)) (by omega) h1 (fun k H2 R s2 r => ?_) (fun H2 s2 e2 => ?_)
    · walk_at "gop"
      refine ite2 (fun h => ?_) (fun h => ?_)
      · have h : k < 97 := lt_sign.mp (of_decide_eq_true h)
        rw [decide_eq_false (show ¬ 97 ≤ k by omega)] at r
        exact r
      · have h : ¬ k < 97 := fun z => h (decide_eq_true (lt_sign.mpr z))
        rw [decide_eq_true (show 97 ≤ k by omega), Bool.true_and] at r
        walk_at "gop"
        rw [show (("z" : Str)).cps.toList = [122] from rfl, show ((⟨#[k]⟩ : Str)).cps.toList = [k] from rfl, le_sign]
        exact r
    walk_at "gop"
    refine ⟨D1, _, rfl, SqL.of e2, ?_⟩
    rw [List.all_map]
    exact q H2 s2
theorem h_Order (Z : PF K CL CO CB) (g : mg "Order" = some (.ref CO)) (h_Line : MkCH P w K mg base 1 CL "Line" P_Line___init__ (sp_Line_init CL)) (D : IAt K CO "Order.__init__" s_Order___init__ P_Order___init__) :
    MkCH P w K mg base 3 CO "Order" P_Order___init__ (sp_Order_init K CL CO) := by
  refine mkc_ofH g D sc_Order___init__ (fun vs H Q E h => ?_) (fun f cdv A outer s H vs Q E pn HC hr h => ?_)
  · obtain ⟨a, dx, p, xs, ls, rfl, _⟩ := h
    rfl
  · obtain ⟨a, dx, p, xs, ls, rfl, h0, hS, dxs, lz, q⟩ := h
    refine ⟨_, (pss_cons (ps_fld (pv 0) (pe_lcH (own := [("item", 3), ("pieces", 5), ("cents", 2), ("pack", 4)]) (g := gTup K 4 (gCons (gName 3) (gCons (gName 5) (gCons (gName 2) (gCons (gName 4) gNil))))) (tt := tYes) HC sc_Order___init__.nd (pi_listH K (pv 1)) (blkOk_by (N := N_Order___init__) (sc := defScope s_Order___init__) (by decide +kernel)) (fun _ _ _ _ _ => pg_tupH HC (pgs_cons (pg_name (i := 3) sc_Order___init__.nd rfl (Or.inl rfl)) (pgs_cons (pg_name (i := 5) sc_Order___init__.nd rfl (Or.inl rfl)) (pgs_cons (pg_name (i := 2) sc_Order___init__.nd rfl (Or.inl rfl)) (pgs_cons (pg_name (i := 4) sc_Order___init__.nd rfl (Or.inl rfl)) pgs_nil))))) (fun _ _ _ _ _ => pts_nil) (fun _ _ _ _ _ => (pe_mkCH h_Line (hr.mono (by decide)) HC (pa_cons (pv 3) (pa_cons (pv 5) (pa_cons (pv 2) (pa_cons (pv 4) pa_nil))))))) rfl)
      (pss_cons (ps_fld (pv 0) pe_int rfl)
      (pss_cons (ps_fld (pv 0) (pe_lst pa_nil) rfl)
      (pss_one (ps_fld (pv 0) (pe_lst pa_nil) rfl))))), ?_⟩
    have hl := dxs.length
    rw [List.length_map] at hl
    walk_at "gop"
    refine ⟨⟨_, hS⟩, fun D hD => ?_⟩
    refine lc_list (K := K) (a := p) (xs := xs) (LinesAt CL D H ls) ⟨[], same_new hD, upd_same, rfl, .nil, (fun _ z => by cases z), (fun _ _ _ z => by cases z)⟩ (fun i H1 _ ⟨_, s1, _⟩ => same_l s1 hS) ?_ ?_
    · rintro i x H1 hx ⟨lns, s1, hd1, ln1, nd1, nw1, at1⟩
      have hi : i < ls.length := by rw [← hl]; exact (List.getElem?_eq_some_iff.mp hx).1
      obtain ⟨d, hd, dd⟩ := (dxs.same s1).got hx
      have et : ls[i]? = some ls[i] := List.getElem?_eq_getElem hi
      rw [List.getElem?_map, et] at hd
      have hd := Option.some.inj hd
      subst hd
      obtain ⟨p1, rfl, hp⟩ := line_dp dd
      generalize ls[i] = t at *
      refine ⟨p1, _, rfl, hp, rfl, _, _, rfl, _, _, rfl, _, _, rfl, _, _, rfl, rfl, rfl, ?_⟩
      walk_at "gop"
      intro x1 d1 hx1 hd2 ne
      have s2 : Same H1 (upd (upd H1 d1 (.own x1)) x1 (.ins CL d1 [])) := (same_new hd2).trans (same_new (by rw [upd_ne ne.symm]; exact hx1))
      have s3 : Same H1 (upd (upd H1 d1 (.own x1)) x1 (.ins CL d1 (lnF t.new))) := (same_new hd2).trans (same_new (by rw [upd_ne ne.symm]; exact hx1))
      refine ⟨x1, d1, t, rfl, upd_same, ?_⟩
      rw [upd_upd]
      refine ⟨rfl, ?_⟩
      have hD1 : x1 ≠ D := fun z => by rw [z, hd1] at hx1; cases hx1
      refine ⟨_, s3 _ _ hd1, Evl.sz_lt (by rw [List.length_map]; omega), lns ++ [x1], same_mut (s1.trans s3) hD, ?_, by rw [List.length_append, ln1]; rfl, ?_, fun y hy => ?_, fun j y t' hj ht => ?_⟩
      · rw [upd_same, List.map_append]; rfl
      · rw [List.nodup_append]
        refine ⟨nd1, by simp, fun y hy z hz => ?_⟩
        rw [List.mem_singleton] at hz
        subst hz
        intro e
        subst e
        obtain ⟨j, hj⟩ := List.getElem?_of_mem hy
        have hj' : j < ls.length := by
          have := (List.getElem?_eq_some_iff.mp hj).1
          omega
        obtain ⟨dx', e⟩ := at1 j y _ hj (List.getElem?_eq_getElem hj')
        rw [hx1] at e
        cases e
      · rcases List.mem_append.mp hy with z | z
        · exact nw1 y z
        · rw [List.mem_singleton] at z
          subst z
          exact ⟨none_back s1 hx1, hD1⟩
      · rcases Nat.lt_or_ge j lns.length with z | z
        · rw [List.getElem?_append_left z] at hj
          obtain ⟨dx', e⟩ := at1 j y t' hj ht
          exact ⟨dx', by rw [upd_ne (nw1 y (List.mem_of_getElem? hj)).2]; exact s3 _ _ e⟩
        · rw [List.getElem?_append_right z] at hj
          have z0 : j - lns.length = 0 := by
            have := (List.getElem?_eq_some_iff.mp hj).1
            simp only [List.length_cons, List.length_nil] at this
            omega
          rw [z0] at hj
          cases hj
          have : j = i := by omega
          subst this
          rw [et] at ht
          cases ht
          exact ⟨d1, by rw [upd_ne hD1]; exact upd_same⟩
    rintro H1 ⟨lns, s1, hd1, ln1, nd1, nw1, at1⟩
    have ha1 := s1 _ _ h0
    walk_at "gop"
    refine ⟨a, CO, dx, _, rfl, ha1, Z.cO, Z.nO _ (by decide), lt1000, ?_⟩
    walk_at "gop"
    refine ⟨a, CO, dx, _, rfl, upd_same, Z.cO, Z.nO _ (by decide), lt1000, ?_⟩
    rw [upd_upd]
    have nD : D ≠ a := fun z => by rw [z, h0] at hD; cases hD
    have na : ∀ y ∈ lns, y ≠ a := fun y hy z => by
      have := (nw1 y hy).1
      rw [z, h0] at this
      cases this
    have f2 : ∀ (fs : List (Str × V)) x u, x ≠ a → H1 x = some u → upd H1 a (.ins CO dx fs) x = some u := fun fs x u n e => by rw [upd_ne n]; exact e
    walk_at "gop"
    have e2 : upd H1 a (.ins CO dx (putF "received" (.int 0) (putF "lines" (.ref D) []))) a = some (.ins CO dx (putF "received" (.int 0) (putF "lines" (.ref D) []))) := upd_same
    have f2 := f2 (putF "received" (.int 0) (putF "lines" (.ref D) []))
    generalize upd H1 a (.ins CO dx (putF "received" (.int 0) (putF "lines" (.ref D) []))) = H2 at *
    intro c1 hc1
    have n1 : a ≠ c1 := fun z => by rw [← z, e2] at hc1; cases hc1
    walk_at "gop"
    refine ⟨a, CO, dx, _, rfl, by rw [upd_ne n1]; exact e2, Z.cO, Z.nO _ (by decide), lt1000, ?_⟩
    walk_at "gop"
    have e3 : upd (upd H2 c1 (.lst [])) a (.ins CO dx (putF "changed" (.ref c1) (putF "received" (.int 0) (putF "lines" (.ref D) [])))) a = some (.ins CO dx (putF "changed" (.ref c1) (putF "received" (.int 0) (putF "lines" (.ref D) [])))) := upd_same
    have g3 : upd (upd H2 c1 (.lst [])) a (.ins CO dx (putF "changed" (.ref c1) (putF "received" (.int 0) (putF "lines" (.ref D) [])))) c1 = some (.lst []) := by rw [upd_ne n1.symm]; exact upd_same
    have f3 : ∀ x u, x ≠ a → H1 x = some u → upd (upd H2 c1 (.lst [])) a (.ins CO dx (putF "changed" (.ref c1) (putF "received" (.int 0) (putF "lines" (.ref D) [])))) x = some u := fun x u n e => by
      have := f2 x u n e
      rw [upd_ne n, upd_ne (ne_of_none this hc1)]
      exact this
    generalize upd (upd H2 c1 (.lst [])) a (.ins CO dx (putF "changed" (.ref c1) (putF "received" (.int 0) (putF "lines" (.ref D) [])))) = H3 at *
    intro c2 hc2
    have n2 : a ≠ c2 := fun z => by rw [← z, e3] at hc2; cases hc2
    have n12 : c1 ≠ c2 := ne_of_none g3 hc2
    walk_at "gop"
    refine ⟨a, CO, dx, _, rfl, by rw [upd_ne n2]; exact e3, Z.cO, Z.nO _ (by decide), lt1000, ?_⟩
    have f4 : ∀ x u, x ≠ a → H1 x = some u → upd (upd H3 c2 (.lst [])) a (.ins CO dx (odF ⟨a, dx, D, c1, c2, 0, lns⟩ 0)) x = some u := fun x u n e => by
      have := f3 x u n e
      rw [upd_ne n, upd_ne (ne_of_none this hc2)]
      exact this
    have o1 : H c1 = none := by
      cases e : H c1 with
      | none => rfl
      | some u => rw [f2 c1 u n1.symm (s1 _ _ e)] at hc1; cases hc1
    have o2 : H c2 = none := by
      cases e : H c2 with
      | none => rfl
      | some u => rw [f3 c2 u n2.symm (s1 _ _ e)] at hc2; cases hc2
    have nDc1 : D ≠ c1 := ne_of_none (f2 D _ nD hd1) hc1
    have nDc2 : D ≠ c2 := ne_of_none (f3 D _ nD hd1) hc2
    have at2 : ∀ y ∈ lns, ∃ u, H1 y = some u := fun y hy => by
      obtain ⟨j, hj⟩ := List.getElem?_of_mem hy
      have hj' : j < ls.length := by
        have := (List.getElem?_eq_some_iff.mp hj).1
        omega
      obtain ⟨dx', e⟩ := at1 j y _ hj (List.getElem?_eq_getElem hj')
      exact ⟨_, e⟩
    refine q (upd (upd H3 c2 (.lst [])) a (.ins CO dx (odF ⟨a, dx, D, c1, c2, 0, lns⟩ 0))) D c1 c2 lns (fun x u n e => f4 x u n (s1 _ _ e)) (fun x hx => ?_) fun q => ?_
    · rcases hx with z | z | z | z | z
      · exact .inl z
      · rw [z]; exact .inr hD
      · rw [z]; exact .inr o1
      · rw [z]; exact .inr o2
      · exact .inr (nw1 x z).1
    · refine ⟨upd_same, f4 _ _ nD hd1, by show lns.length = (ls.map LineT.new).length; rw [List.length_map]; omega, fun i x l hx hl2 => ?_, ⟨[], ?_, .nil⟩, ⟨[], ?_, .nil⟩, ?_⟩
      · have hx : lns[i]? = some x := hx
        have hl2 : (ls.map LineT.new)[i]? = some l := hl2
        rw [List.getElem?_map] at hl2
        cases e : ls[i]? with
        | none => rw [e] at hl2; cases hl2
        | some t =>
          rw [e] at hl2
          cases hl2
          obtain ⟨dx', e'⟩ := at1 i x t hx e
          exact ⟨dx', f4 _ _ (na x (List.mem_of_getElem? hx)) e'⟩
      · show upd (upd H3 c2 (.lst [])) a _ c1 = _
        rw [upd_ne n1.symm, upd_ne n12]
        exact g3
      · show upd (upd H3 c2 (.lst [])) a _ c2 = _
        rw [upd_ne n2.symm]
        exact upd_same
      · show (a :: D :: c1 :: c2 :: lns).Nodup
        have m1 : c1 ∉ lns := fun z => by
          obtain ⟨u, e⟩ := at2 c1 z
          exact ne_of_none (f2 c1 u n1.symm e) hc1 rfl
        have m2 : c2 ∉ lns := fun z => by
          obtain ⟨u, e⟩ := at2 c2 z
          exact ne_of_none (f3 c2 u n2.symm e) hc2 rfl
        simp only [List.nodup_cons, List.mem_cons, not_or]
        exact ⟨⟨nD.symm, n1, n2, fun z => na a z rfl⟩, ⟨nDc1, nDc2, fun z => (nw1 D z).2 rfl⟩, ⟨n12, m1⟩, m2, nd1⟩
theorem h_Book_orders (Z : PF K CL CO CB) (T : Blt mg) (D : MAt K CB "orders" "Book.orders" s_Book_orders P_Book_orders) : MCalH P w K mg base 1 CB "orders" P_Book_orders (sp_orders (theR K CL CO CB)) := by
  refine mcal_ofH Z.cB D sc_Book_orders (fun vs H Q E h => ?_) (fun f cdv A outer s H vs Q E pn HC hr h => ?_)
  · obtain ⟨fp, b, S, rfl, _⟩ := h
    rfl
  · obtain ⟨fp, b, S, rfl, r, q⟩ := h
    refine ⟨_, (pss_one (ps_ret (pe_callB (kc_len K) (by rfl) T.m_len PySem.boot_len (pa_cons (pe_fld (pv 0) rfl) pa_nil)))), ?_⟩
    obtain ⟨ES, dx, ol, dl, os, dv, A, hi⟩ := r
    have hb := A.hb
    have ho := A.ho
    have zl : ((os.map fun o => V.ref o.a).length : Nat) = S.M.length := by rw [List.length_map]; exact A.lM
    walk_at "gop"
    rw [zl]
    exact q H fp .refl (.refl H) ⟨ES, dx, ol, dl, os, dv, A, hi⟩
end
section
variable {P : Program} {w : World} {K : PySem.W.Frag} {mg : Str → Option Value} {base : Heap} {CL CO CB : Addr}
/-- nothing is raised -/
def sp0 (sp : Sp) : Sp := fun vs H Q _ => sp vs H Q E0
theorem h_refuse_lines {cl : Str → Addr} (T : Blt mg) (CS : Consts mg) (h_is_item : CalH P w K mg base 1 "is_item" P_is_item sp_is_item) (D : DefAt K mg "refuse_lines" s_refuse_lines P_refuse_lines) :
    CalH P w K mg base 2 "refuse_lines" P_refuse_lines (sp0 (sp_refuse_lines K cl)) := by
  refine cal_ofH D sc_refuse_lines (fun vs H Q E h => ?_) (fun f cdv A outer s H vs Q E pn HC hr h => ?_)
  · obtain ⟨a, xs, ls, rfl, _⟩ := h
    rfl
  · obtain ⟨a, xs, ls, rfl, hS, dx, lz, iz, q, qe⟩ := h
    refine ⟨_, (pss_cons (ps_if (pt_not (pt_chain op_le op_le pe_int (pe_callB (kc_len K) (by rfl) T.m_len PySem.boot_len (pa_cons (pv 0) pa_nil)) (pe_gint CS.k_MOST_LINES)))
        (pss_one ps_dead)
        pss_nil)
      (pss_one (L2H.ps_forH (passes_of rfl) HC (pi_listH K (pv 0)) (pg_tupH HC (pgs_cons (pg_name (i := 1) sc_refuse_lines.nd rfl (Or.inl rfl)) (pgs_cons (pg_name (i := 2) sc_refuse_lines.nd rfl (Or.inl rfl)) (pgs_cons (pg_name (i := 3) sc_refuse_lines.nd rfl (Or.inl rfl)) (pgs_cons (pg_name (i := 4) sc_refuse_lines.nd rfl (Or.inl rfl)) pgs_nil)))))
        (pss_cons (ps_if (pt_not (pt_val (pe_calH h_is_item (hr.mono (by decide)) HC (pa_cons (pv 1) pa_nil))))
          (pss_one ps_dead)
          pss_nil)
        (pss_cons (ps_if (pt_not (pt_chain op_le op_le pe_int (pv 2) (pe_gint CS.k_MOST_PIECES)))
          (pss_one ps_dead)
          pss_nil)
        (pss_cons (ps_if (pt_not (pt_chain op_le op_le pe_int (pv 3) (pe_gint CS.k_MOST_CENTS)))
          (pss_one ps_dead)
          pss_nil)
        (pss_one (ps_if (pt_not (pt_chain op_le op_le pe_int (pv 4) (pe_gint CS.k_MOST_PACK)))
          (pss_one ps_dead)
          pss_nil)))))))), ?_⟩
    have hl := dx.length
    rw [List.length_map] at hl
    have bad : badLines ls = "NoLines" → E0 (.ref (cl "NoLines")) none H := fun e => by
      rw [e] at qe
      exact qe (by decide +kernel) H (Same.refl _)
    walk_at "gop"
    refine ite2 (fun h1 => ?_) (fun h1 => ?_)
    rotate_left
    · walk_at "gop"
      refine bad ?_
      have : ls.length = 0 := by
        have := of_decide_eq_false (bfalse h1)
        omega
      unfold badLines
      rw [if_pos (.inl this)]
    walk_at "gop"
    have h1 := of_decide_eq_true h1
    refine ite2 (fun h2 => ?_) (fun h2 => ?_)
    rotate_left
    · walk_at "gop"
      refine bad ?_
      have : 20 < ls.length := by
        have := of_decide_eq_false (bfalse h2)
        omega
      unfold badLines
      rw [if_pos (.inr this)]
    have h2 := of_decide_eq_true h2
    have eb : badLines ls = firstBad ls := by
      unfold badLines
      rw [if_neg (by omega)]
    rw [eb] at q qe
    walk_at "gop"
    refine ⟨⟨_, hS⟩, ?_⟩
    refine for_list (K := K) (a := a) (xs := xs) (fun i σ H' => ∃ v1 v2 v3 v4, σ = [some (.ref a), v1, v2, v3, v4] ∧ Same H H' ∧ firstBad ls = firstBad (ls.drop i)) ⟨none, none, none, none, rfl, Same.refl _, rfl⟩ (fun i σ H' _ ⟨_, _, _, _, _, s1, _⟩ => same_l s1 hS) ?_ ?_
    rotate_left
    · rintro σ H' ⟨v1, v2, v3, v4, rfl, s1, e⟩
      rw [hl, List.drop_length] at e
      exact q e H' s1
    rintro i x σ H' hx ⟨v1, v2, v3, v4, rfl, s1, e⟩
    have hi : i < ls.length := by rw [← hl]; exact (List.getElem?_eq_some_iff.mp hx).1
    obtain ⟨d, hd, dd⟩ := (dx.same s1).got hx
    rw [List.getElem?_map, List.getElem?_eq_getElem hi] at hd
    have hd := Option.some.inj hd
    subst hd
    obtain ⟨p, rfl, hp⟩ := line_dp dd
    have it := iz _ (List.getElem_mem hi)
    rw [List.drop_eq_getElem_cons hi] at e
    generalize ls[i] = t at *
    rw [firstBad_cons] at e
    refine ⟨p, _, rfl, hp, rfl, _, _, rfl, _, _, rfl, _, _, rfl, _, _, rfl, rfl, ?_⟩
    walk_at "gop"
    intro H2 s2
    have s3 := s1.trans s2
    walk_at "gop"
    refine ite2 (fun h3 => ?_) (fun h3 => ?_)
    rotate_left
    · rw [if_pos (bfalse h3)] at e
      rw [e] at qe
      walk_at "gop"
      exact qe (by decide +kernel) H2 s3
    rw [if_neg (by rw [h3]; exact fun z => nomatch z)] at e
    have num : numsOk t = false → E0 (.ref (cl "NoNumber")) none H2 := fun z => by
      rw [if_pos z] at e
      rw [e] at qe
      exact qe (by decide +kernel) H2 s3
    unfold numsOk at num e
    walk_at "gop"
    refine ite2 (fun g1 => ?_) (fun g1 => ?_)
    rotate_left
    · walk_at "gop"
      exact num (by rw [bfalse g1]; rfl)
    walk_at "gop"
    refine ite2 (fun g2 => ?_) (fun g2 => ?_)
    rotate_left
    · walk_at "gop"
      exact num (by rw [bfalse g2, Bool.and_false]; rfl)
    walk_at "gop"
    refine ite2 (fun g3 => ?_) (fun g3 => ?_)
    rotate_left
    · walk_at "gop"
      exact num (by rw [bfalse g3, Bool.and_false]; rfl)
    walk_at "gop"
    refine ite2 (fun g4 => ?_) (fun g4 => ?_)
    rotate_left
    · walk_at "gop"
      exact num (by rw [bfalse g4, Bool.and_false]; rfl)
    walk_at "gop"
    refine ite2 (fun g5 => ?_) (fun g5 => ?_)
    rotate_left
    · walk_at "gop"
      exact num (by rw [bfalse g5, Bool.and_false]; rfl)
    walk_at "gop"
    refine ite2 (fun g6 => ?_) (fun g6 => ?_)
    rotate_left
    · walk_at "gop"
      exact num (by rw [bfalse g6, Bool.and_false])
    walk_at "gop"
    refine ⟨_, _, _, _, rfl, s3, ?_⟩
    rw [e, g1, g2, g3, g4, g5, g6]
    rfl
theorem h_Book__begin {cl : Str → Addr} (Z : PF K CL CO CB) (T : Blt mg) (CS : Consts mg) (h_refuse_lines : CalH P w K mg base 2 "refuse_lines" P_refuse_lines (sp0 (sp_refuse_lines K cl))) (h_Order : MkCH P w K mg base 3 CO "Order" P_Order___init__ (sp_Order_init K CL CO))
    (D : MAt K CB "_begin" "Book._begin" s_Book__begin P_Book__begin) : MCalH P w K mg base 5 CB "_begin" P_Book__begin (sp0 (sp_begin K CL CO CB cl)) := by
  refine mcal_ofH Z.cB D sc_Book__begin (fun vs H Q E h => ?_) (fun f cdv A outer s H vs Q E pn HC hr h => ?_)
  · obtain ⟨fp, b, p, M, ES, past, dx, ol, dl, os, dv, xs, ls, rfl, _⟩ := h
    rfl
  · obtain ⟨fp, b, p, M, ES, past, dx, ol, dl, os, dv, xs, ls, rfl, A, hi, pz, hS, dd, sm, q, qe⟩ := h
    refine ⟨_, (pss_cons (ps_expr (pe_calH h_refuse_lines (hr.mono (by decide)) HC (pa_cons (pv 1) pa_nil)))
      (pss_cons (ps_if (pt_cmpR op_ge (pe_callB (kc_len K) (by rfl) T.m_len PySem.boot_len (pa_cons (pe_fld (pv 0) rfl) pa_nil)) (pe_gint CS.k_MOST_ORDERS) (nomark _))
        (pss_one ps_dead)
        pss_nil)
      (pss_cons (ps_expr (pe_bm PySem.F.plainAttrs_list PySem.F.slot_list_append PySem.F.type_list_append mt_append (pe_fld (pv 0) rfl) (pa_cons (pe_mkCH h_Order (hr.mono (by decide)) HC (pa_cons (pv 1) pa_nil)) pa_nil)))
      (pss_cons (ps_expr (pe_bm PySem.F.plainAttrs_list PySem.F.slot_list_append PySem.F.type_list_append mt_append (pe_fld (pv 0) rfl) (pa_cons (pe_tup (pa_cons pe_str (pa_cons (pe_callTy (kc_list K) (by rfl) T.m_list PyProof.Rows.boot_list (pa_cons (pv 1) pa_nil)) pa_nil))) pa_nil)))
      (pss_one (ps_ret (pe_lst pa_nil))))))), ?_⟩
    have er : refuseM M (.ord ls) = (if ls.length = 0 ∨ 20 < ls.length then "NoLines" else if ¬ firstBad ls = "" then firstBad ls else if 40 ≤ M.length then "FullBook" else "" : Str) := rfl
    have eb : badLines ls ≠ "" → refuseM M (.ord ls) = badLines ls := fun h => by
      rw [er]
      unfold badLines at h ⊢
      by_cases h1 : ls.length = 0 ∨ 20 < ls.length
      · rw [if_pos h1, if_pos h1]
      · rw [if_neg h1] at h
        rw [if_neg h1, if_neg h1, if_pos h]
    have ef : badLines ls = "" → refuseM M (.ord ls) = (if 40 ≤ M.length then "FullBook" else "" : Str) := fun h => by
      rw [er]
      unfold badLines at h
      by_cases h1 : ls.length = 0 ∨ 20 < ls.length
      · rw [if_pos h1] at h
        exact absurd h (by decide +kernel)
      · rw [if_neg h1] at h
        rw [if_neg h1, if_neg fun z => z h]
    walk_at "gop"
    refine ⟨p, xs, ls, rfl, same_l off_same hS, dd.same off_same, sm.1, fun t ht => (sm.2 t ht).1, fun ok1 H1 s1 => ?_, fun no H1 s1 => ?_⟩
    rotate_left
    · rw [eb no] at qe
      exact qe no H1 s1
    have ef := ef ok1
    have hb1 := s1 _ _ A.hb
    have ho1 := s1 _ _ A.ho
    have zl : ((os.map fun o => V.ref o.a).length : Nat) = M.length := by rw [List.length_map]; exact A.lM
    walk_at "gop"
    rw [zl]
    refine ite2 (fun g => ?_) (fun g => ?_)
    · have g := of_decide_eq_true g
      rw [if_pos (by omega)] at ef
      rw [ef] at qe
      walk_at "gop"
      exact qe (by decide +kernel) H1 s1
    have g : M.length < 40 := by
      have := of_decide_eq_false (bfalse g)
      omega
    rw [if_neg (by omega)] at ef
    have q0 := q ef
    clear q
    obtain ⟨lo, _⟩ := legal_ord ef
    walk_at "gop"
    refine ⟨.inl ⟨rfl, _, SqL.of ho1⟩, ?_⟩
    walk_at "gop"
    intro a1 d1 ha1 hd1 ne
    have s2 : Same H1 (upd (upd H1 d1 (.own a1)) a1 (.ins CO d1 [])) := (same_new hd1).trans (same_new (by rw [upd_ne ne.symm]; exact ha1))
    have s12 := s1.trans s2
    refine ⟨a1, d1, p, xs, ls, rfl, upd_same, same_l s12 (same_l off_same hS), (dd.same off_same).same s12, sm.1, fun H3 la ch ah lns f3 nw3 O3 => ?_⟩
    refine ⟨rfl, ?_⟩
    have oa1 : H a1 = none := none_back s1 ha1
    have f3 : ∀ x u, H x = some u → H3 x = some u := fun x u e => f3 x u (ne_of_none e oa1) (s12 _ _ e)
    have nw3 : ∀ x, Foot ⟨a1, d1, la, ch, ah, 0, lns⟩ x → H x = none := fun x hx => by
      rcases nw3 x hx with z | z
      · rw [z]; exact oa1
      · exact none_back s12 z
    have ho3 := f3 _ _ A.ho
    have mz := A.lM
    refine ⟨ol, _, _, rfl, rfl, ho3, Evl.sz_lt (by rw [List.length_map]; omega), ?_⟩
    obtain ⟨f1, f2, f3', f4'⟩ := A.fps
    have nbo : b ≠ ol := fun z => by have := A.hb; rw [z, A.ho] at this; cases this
    have nbd : b ≠ dl := fun z => by have := A.hb; rw [z, A.hd] at this; cases this
    have f4 : ∀ x u, x ≠ ol → H x = some u → upd H3 ol (.lst ((os.map fun o => V.ref o.a) ++ [.ref a1])) x = some u := fun x u n e => by rw [upd_ne n]; exact f3 x u e
    have o4 : upd H3 ol (.lst ((os.map fun o => V.ref o.a) ++ [.ref a1])) ol = some (.lst ((os.map fun o => V.ref o.a) ++ [.ref a1])) := upd_same
    have tk4 : TupK H3 (upd H3 ol (.lst ((os.map fun o => V.ref o.a) ++ [.ref a1]))) := tupK_upd ho3 no_lst
    have nfo : ¬ Foot ⟨a1, d1, la, ch, ah, 0, lns⟩ ol := fun z => by
      have := nw3 ol z
      rw [A.ho] at this
      cases this
    have O4 : ∀ q, OdAt2 K CL CO (upd H3 ol (.lst ((os.map fun o => V.ref o.a) ++ [.ref a1]))) ⟨a1, d1, la, ch, ah, q, lns⟩ ⟨ls.map LineT.new, 0, []⟩ [] := fun q => (O3 q).frame (fun _ z => by cases z) (fun x u hx e => by rw [upd_ne fun z => nfo (by rw [← z]; exact hx)]; exact e) tk4
    generalize upd H3 ol (.lst ((os.map fun o => V.ref o.a) ++ [.ref a1])) = H4 at *
    have hb4 := f4 _ _ nbo A.hb
    have hd4 := f4 _ _ A.nol.symm A.hd
    have so4 : Same (off fp H) H4 := fun x u e => by
      obtain ⟨e1, e2⟩ := off_some e
      exact f4 x u (fun z => e1 (by rw [z]; exact f2)) e2
    have hS4 := same_l so4 hS
    have dd4 := dd.same so4
    walk_at "gop"
    refine ⟨.inl ⟨rfl, _, SqL.of hd4⟩, ?_⟩
    walk_at "gop"
    intro q hq
    walk_at "gop"
    intro t ht
    have s5 : Same H4 (upd H4 q (.lst xs)) := same_new hq
    have s6 : Same H4 (upd (upd H4 q (.lst xs)) t (.tup [.str "order", .ref q])) := s5.trans (same_new ht)
    have q6 : upd (upd H4 q (.lst xs)) t (.tup [.str "order", .ref q]) q = some (.lst xs) := same_new ht _ _ upd_same
    have t6 : upd (upd H4 q (.lst xs)) t (.tup [.str "order", .ref q]) t = some (.tup [.str "order", .ref q]) := upd_same
    generalize upd (upd H4 q (.lst xs)) t (.tup [.str "order", .ref q]) = H6 at *
    have dz : dv.length ≤ 5000 := by
      have := Paired.length A.dv
      rw [List.length_reverse] at this
      omega
    refine ⟨dl, dv, _, rfl, rfl, s6 _ _ hd4, Evl.sz_lt (by omega), ?_⟩
    have oq : H q = none := by
      cases e : H q with
      | none => rfl
      | some u =>
        by_cases z : q = ol
        · rw [z, o4] at hq; cases hq
        · rw [f4 q u z e] at hq; cases hq
    have nqd : q ≠ dl := fun z => by rw [z, hd4] at hq; cases hq
    have ntd : t ≠ dl := fun z => by
      have := s5 _ _ hd4
      rw [← z, ht] at this
      cases this
    have f7 : ∀ x u, x ≠ ol → x ≠ dl → H x = some u → upd H6 dl (.lst (dv ++ [.ref t])) x = some u := fun x u n1 n2 e => by
      rw [upd_ne n2]
      exact s6 _ _ (f4 x u n1 e)
    have tk7 : TupK H4 (upd H6 dl (.lst (dv ++ [.ref t]))) := (TupK.same s6).trans (tupK_upd (s6 _ _ hd4) no_lst)
    have nfd : ¬ Foot ⟨a1, d1, la, ch, ah, q, lns⟩ dl := fun z => by
      have := nw3 dl z
      rw [A.hd] at this
      cases this
    have nqF : ¬ Foot ⟨a1, d1, la, ch, ah, q, lns⟩ q := fun z => by
      have O := O4 q
      rcases z with z | z | z | z | z
      · have := O.hd
        rw [show (⟨a1, d1, la, ch, ah, q, lns⟩ : OA2).a = q from z.symm, hq] at this
        cases this
      · have := O.hl
        rw [show (⟨a1, d1, la, ch, ah, q, lns⟩ : OA2).ls = q from z.symm, hq] at this
        cases this
      · obtain ⟨cs, this, _⟩ := O.hc
        rw [show (⟨a1, d1, la, ch, ah, q, lns⟩ : OA2).ch = q from z.symm, hq] at this
        cases this
      · obtain ⟨cs, this, _⟩ := O.ha
        rw [show (⟨a1, d1, la, ch, ah, q, lns⟩ : OA2).ah = q from z.symm, hq] at this
        cases this
      · obtain ⟨i, hi⟩ := List.getElem?_of_mem z
        have hj : i < (ls.map LineT.new).length := by
          have h2 : lns.length = (ls.map LineT.new).length := O.len
          rw [← h2]
          exact (List.getElem?_eq_some_iff.mp hi).1
        obtain ⟨dx', this⟩ := O.ln i q _ hi (List.getElem?_eq_getElem hj)
        rw [hq] at this
        cases this
    have O7 : OdAt2 K CL CO (upd H6 dl (.lst (dv ++ [.ref t]))) ⟨a1, d1, la, ch, ah, q, lns⟩ ⟨ls.map LineT.new, 0, []⟩ [] := (O4 q).frame (fun _ z => by cases z) (fun x u hx e => by rw [upd_ne fun z => nfd (by rw [← z]; exact hx)]; exact s6 _ _ e) tk7
    have so : ∀ t ∈ ls, PyData.strOk t.item = true := fun t ht => (lo.2.2 t ht).str
    have A7 := A.more hi.good.ok (H' := upd H6 dl (.lst (dv ++ [.ref t]))) (t := t) (xs := xs) (ls := ls) f7 (by rw [upd_ne A.nol]; exact s6 _ _ o4) upd_same (by rw [upd_ne ntd]; exact t6) (by rw [upd_ne nqd]; exact q6) (flat_tupK tk7 (lines_flat so) dd4) so O7 (fun x hx => by
      rcases hx with z | z
      · exact nw3 x z
      · rw [z]; exact oq) nqF
    have k7 : Keep fp H (upd H6 dl (.lst (dv ++ [.ref t]))) := fun x u e => by
      by_cases z1 : x = ol
      · refine ⟨fun n => absurd (by rw [z1]; exact f2) n, .lst ((os.map fun o => V.ref o.a) ++ [.ref a1]), by rw [z1, upd_ne A.nol]; exact s6 _ _ o4, fun z => ?_⟩
        rw [z1, A.ho] at e
        rw [← Option.some.inj e] at z
        exact z.elim (fun z => absurd z no_lst) fun z => absurd z no_lst
      by_cases z2 : x = dl
      · refine ⟨fun n => absurd (by rw [z2]; exact f3') n, .lst (dv ++ [.ref t]), by rw [z2]; exact upd_same, fun z => ?_⟩
        rw [z2, A.hd] at e
        rw [← Option.some.inj e] at z
        exact z.elim (fun z => absurd z no_lst) fun z => absurd z no_lst
      exact ⟨fun _ => f7 x u z1 z2 e, u, f7 x u z1 z2 e, fun _ => rfl⟩
    walk_at "gop"
    intro r hr
    have s8 : Same (upd H6 dl (.lst (dv ++ [.ref t]))) (upd (upd H6 dl (.lst (dv ++ [.ref t]))) r (.lst [])) := same_new hr
    have okM : ∀ m ∈ stepM M (.ord ls), m.Ok := (step_hist hi.good (A.lM.symm.trans A.lE) (d := .ord ls) trivial ef).2.ok
    have nr : ¬ (fp r ∨ Foot ⟨a1, d1, la, ch, ah, q, lns⟩ r ∨ r = q) := fun z => A7.mt.has r z hr
    refine q0 _ r _ _ ⟨a1, d1, la, ch, ah, q, lns⟩ (k7.trans (.same s8)) (fun x hx => ?_) (A7.stay okM (fun x u _ e => s8 _ _ e) (.same s8)) (k7.none hr) nr upd_same
    rcases hx with z | z
    · exact nw3 x z
    · rw [z]; exact oq
/-- an order begun, an error being held -/
def hsp_do (R : BRep) (K : PySem.W.Frag) : Sp := fun vs H Q _ => ∃ fp b S v ls, vs = [.ref b, v] ∧ R.Rep fp H b S ∧ S.past.length ≤ 5000 ∧ Dp K (off fp H) v (deedD (.ord ls)) ∧ (Deed.ord ls).Small ∧ refuseM S.M (.ord ls) = "" ∧ R.Lst K fp H b (S.did (.ord ls)) [] Q
theorem h_Book_do {cl : Str → Addr} {aD aF : Addr} (Z : PF K CL CO CB) (T : Blt mg) (TP : Tups K mg aD aF) (h_Book__begin : MCalH P w K mg base 5 CB "_begin" P_Book__begin (sp0 (sp_begin K CL CO CB cl)))
    (D : MAt K CB "do" "Book.do" s_Book_do P_Book_do) : MCalH P w K mg base 7 CB "do" P_Book_do (hsp_do (theR K CL CO CB) K) := by
  refine mcal_ofH Z.cB D sc_Book_do (fun vs H Q E h => ?_) (fun f cdv A outer s H vs Q E pn HC hr h => ?_)
  · obtain ⟨fp, b, S, v, ls, rfl, _⟩ := h
    rfl
  · obtain ⟨fp, b, S, v, ls, rfl, ⟨ES, dx, ol, dl, os, dv, A, hi⟩, pz, dd, sm, lg, q⟩ := h
    refine ⟨_, (pss_cons (ps_if (PW.pt (pw_or (pt_not (pt_truth (pv 1) (by intro _; rfl))) (pw_or1 (pt_cmpR (ko_notInDT K hr.units65) (pe_tup (pa_cons (pe_ix (kx_tup K) (pv 1) pe_int (fun _ _ => rfl)) (pa_cons (pe_callB (kc_len K) (by rfl) T.m_len PySem.boot_len (pa_cons (pv 1) pa_nil)) pa_nil))) (pe_glob (v := .ref aD) (by rfl) TP.gD rfl) (by rfl)))))
        (pss_one ps_dead)
        pss_nil)
      (pss_cons (ps_if (pt_cmpR op_eq (pe_ix (kx_tup K) (pv 1) pe_int (fun _ _ => rfl)) pe_str (nomark _))
        (pss_one (ps_ret (pe_mH h_Book__begin (pv 0) (hr.mono (by decide)) HC (pa_cons (pe_ix (kx_tup K) (pv 1) pe_int (fun _ _ => rfl)) pa_nil))))
        pss_nil)
      (pss_cons ps_dead
      (pss_cons ps_dead
      (pss_one ps_dead))))), ?_⟩
    have hb := A.hb
    have hd := A.hd
    have lE := A.lM.symm.trans A.lE
    have gd := hi.good
    have ok := gd.ok
    have stay : ∀ {H'}, Same H H' → ShpAt K CL CO CB fp H' b S.M ES S.past dx ol dl os dv := fun s => A.stay ok (fun x u _ e => s x u e) (.same s)
    have ws : PyData.strOk "order" = true := by decide +kernel
    obtain ⟨p, y, rfl, hp0, dy⟩ := deed_ord dd
    have hp := same_t off_same hp0
    refine ⟨_, rfl, true, .inr (.inl ⟨_, hp, rfl⟩), ?_⟩
    walk_at "gop"
    intro t ht
    have s1 : Same H (upd H t (.tup [.str "order", .int (([V.str "order", y].length : Nat) : Int)])) := same_new ht
    have t1 : upd H t (.tup [.str "order", .int (([V.str "order", y].length : Nat) : Int)]) t = some (.tup [.str "order", .int (([V.str "order", y].length : Nat) : Int)]) := upd_same
    generalize upd H t (.tup [.str "order", .int (([V.str "order", y].length : Nat) : Int)]) = H1 at *
    walk_at "gop"
    refine ⟨.tuple [.str "order", .int ((2 : Nat) : Int)], deedsT, .tup (SqT.of t1) (.cons (.str _) (.cons (.int _) .nil)), TP.dD _, shaped_pair ws, shaped_deeds, ?_⟩
    rw [deeds_any, show decide (partsOf "order" = some 2) = true from by decide +kernel]
    have hp1 := same_t s1 hp
    have hb1 := s1 _ _ hb
    walk_at "gop"
    obtain ⟨a, xs, rfl, hx, dx2⟩ := dp_list dy
    have so1 := off_mono (fp := fp) s1
    refine ⟨fp, b, a, S.M, ES, S.past, dx, ol, dl, os, dv, xs, ls, rfl, stay s1, hi, pz, same_l so1 hx, dx2.same so1, sm, fun lg H' r os' dv' o k nw A' hr nr er => ?_, fun h H' s2 => absurd lg h⟩
    obtain ⟨h1, h2⟩ := step_hist gd lE (show (Deed.ord ls).Shape from trivial) lg
    refine q H' _ r [] ⟨fun x z => .inl z, fun x z => z.imp id fun z => none_back s1 (nw x z)⟩ ((Keep.same s1).trans k) ⟨stepE S.M ES (.ord ls), dx, ol, dl, os', dv', A', h2, ES, h1, hi⟩ (none_back s1 hr) nr er .nil
/-- an order taken back, an error being held -/
def hsp_undo (R : BRep) : Sp := fun vs H Q _ => ∃ fp b S ls M rest, vs = [.ref b] ∧ R.Rep fp H b S ∧ S.past.length ≤ 5000 ∧ S.past = (.ord ls, M) :: rest ∧
  ∀ H' t q, Keep fp H H' → R.Rep (fun x => fp x ∧ x ≠ q) H' b ⟨M, rest⟩ → H' t = some (.tup [.str "order", .ref q]) → Q (.ref t) H'
theorem h_Book_undo (Z : PF K CL CO CB) (T : Blt mg) (D : MAt K CB "undo" "Book.undo" s_Book_undo P_Book_undo) : MCalH P w K mg base 3 CB "undo" P_Book_undo (hsp_undo (theR K CL CO CB)) := by
  refine mcal_ofH Z.cB D sc_Book_undo (fun vs H Q E h => ?_) (fun f cdv A outer s H vs Q E pn HC hr h => ?_)
  · obtain ⟨fp, b, S, ls, M, rest, rfl, _⟩ := h
    rfl
  · obtain ⟨fp, b, S, ls, M0, rest, rfl, r, pz, ep, q⟩ := h
    refine ⟨_, (pss_cons (ps_if (pt_not (pt_truth (pe_fld (pv 0) rfl) (by intro _; rfl)))
        (pss_one ps_dead)
        pss_nil)
      (pss_cons (ps_set (i := 1) sc_Book_undo.nd rfl (Or.inl rfl) (pe_bm0 PySem.F.plainAttrs_list PySem.F.slot_list_pop PySem.F.type_list_pop mt_pop (pe_fld (pv 0) rfl)))
      (pss_cons (ps_if (pt_cmpR op_eq (pe_ix (kx_tup K) (pv 1) pe_int (fun _ _ => rfl)) pe_str (nomark _))
        (pss_cons (ps_expr (pe_bm0 PySem.F.plainAttrs_list PySem.F.slot_list_pop PySem.F.type_list_pop mt_pop (pe_fld (pv 0) rfl)))
        (pss_one (ps_ret (pv 1))))
        pss_nil)
      (pss_cons ps_dead
      (Evl.pss_cut ps_dead
      (pss_one (ps_ret (pv 1)))))))), ?_⟩
    obtain ⟨ES, dx, ol, dl, os, dv, A, hi⟩ := id r
    have hb := A.hb
    obtain ⟨M, past⟩ := S
    have ep : past = (.ord ls, M0) :: rest := ep
    subst ep
    have lE := A.lM.symm.trans A.lE
    obtain ⟨gd, E0', un, hs⟩ := hi
    obtain ⟨dv', v, rfl⟩ : ∃ dv' v, dv = dv' ++ [v] := by
      refine ⟨dv.dropLast, dv.getLast (fun z => ?_), (List.dropLast_concat_getLast _).symm⟩
      have := Paired.length A.dv
      rw [z] at this
      simp only [List.reverse_nil, List.length_nil, List.length_cons] at this
      omega
    have hd := A.hd
    have hd' := SqL.of (K := K) hd
    obtain ⟨f1, f2, f3, f4⟩ := A.fps
    walk_at "gop"
    refine ⟨true, .inl ⟨_, hd', by cases dv' <;> rfl⟩, ?_⟩
    walk_at "gop"
    refine ⟨.inl ⟨rfl, _, hd'⟩, ?_⟩
    walk_at "gop"
    refine ⟨dl, _, v, rfl, rfl, hd, last_get, ?_⟩
    rw [List.dropLast_concat]
    obtain ⟨dO, A1⟩ := A.deedLess gd.ok
    have k1 : Keep fp H (upd H dl (.lst dv')) := Keep.upd1 f3 hd no_lst no_lst
    have ndl : ol ≠ dl := A.nol
    have g1 : ∀ x u, x ≠ dl → H x = some u → upd H dl (.lst dv') x = some u := fun x u n e => by rw [upd_ne n]; exact e
    have hd1 : upd H dl (.lst dv') dl = some (.lst dv') := upd_same
    generalize upd H dl (.lst dv') = H1 at *
    have hb1 := A1.hb
    have ho1 := A1.ho
    obtain ⟨⟨m, rfl⟩, rfl⟩ := un
    obtain ⟨os', oo, rfl⟩ : ∃ os' o, os = os' ++ [o] := by
      refine ⟨os.dropLast, os.getLast (fun z => ?_), (List.dropLast_concat_getLast _).symm⟩
      have := A.lM
      rw [z, List.length_append] at this
      simp only [List.length_nil, List.length_cons] at this
      omega
    rw [List.map_append] at ho1
    have f : ∀ x u, x ≠ ol → x ≠ dl → H x = some u → upd H1 ol (.lst (os'.map fun o => V.ref o.a)) x = some u := fun x u n1 n2 e => by rw [upd_ne n1]; exact g1 x u n2 e
    have h2 : upd H1 ol (.lst (os'.map fun o => V.ref o.a)) dl = some (.lst dv') := by rw [upd_ne (Ne.symm ndl)]; exact hd1
    obtain ⟨fq, ⟨t, xs, rfl, ht, hq, hx, hst⟩, A2⟩ := ShpAt.less A hs.good.ok (hist_lt hs) f upd_same h2
    have ht1 : H1 t = some (.tup [.str "order", .ref oo.q]) := by
      have ne : t ≠ ol := fun z => by rw [z, upd_same] at ht; cases ht
      rw [upd_ne ne] at ht
      exact ht
    have k2 : Keep fp H (upd H1 ol (.lst (os'.map fun o => V.ref o.a))) := k1.trans (Keep.upd1 f2 ho1 no_lst no_lst)
    have hT := SqT.of (K := K) ht1
    walk_at "gop"
    refine ⟨.inl ⟨rfl, _, SqL.of ho1⟩, ?_⟩
    walk_at "gop"
    refine ⟨ol, _, .ref oo.a, rfl, rfl, ho1, last_get, ?_⟩
    rw [show ((os'.map fun o => V.ref o.a) ++ [oo].map fun o => V.ref o.a).dropLast = os'.map fun o => V.ref o.a from List.dropLast_concat]
    walk_at "gop"
    exact q _ t oo.q k2 ⟨E0', dx, ol, dl, os', dv', A2, hs⟩ ht
end
section
variable {P : Program} {w : World} {K : PySem.W.Frag} {mg : Str → Option Value} {base : Heap}
/-! ### the plain account: what a line is worth, what is owed, as many as go -/
abbrev N_line_worth : List Str := ["_law_line"]
abbrev P_line_worth : List Str := ["_law_line"]
theorem sc_line_worth : FnScope N_line_worth P_line_worth (defScope s_line_worth) := ⟨rfl, rfl, rfl, by decide +kernel, rfl, by decide +kernel, by decide +kernel⟩
def sp_line_worth (K : PySem.W.Frag) : Sp := fun vs H Q _ => ∃ (a : Addr) (l : Ln), vs = [.ref a] ∧ SqL K H a (LnV l) ∧ l.Ok ∧ Q (.int l.worth) H
theorem c_line_worth (D : DefAt K mg "_law_line_worth" s_line_worth P_line_worth) : Cal P w K mg base CX0 1 "_law_line_worth" P_line_worth (sp_line_worth K) := by
  refine cal_of D sc_line_worth (fun vs H Q E h => ?_) (fun f cdv A outer s H vs Q E hr h => ?_)
  · obtain ⟨a, l, rfl, _⟩ := h
    rfl
  · obtain ⟨a, l, rfl, hS, O, q⟩ := h
    have o0 := O.c0
    have o1 := O.c1
    have o2 := O.p0
    have o3 := O.p1
    refine ⟨_, (pss_one (ps_ret (pe_op op_fdiv (pe_op op_mul (pe_op op_sub (pe_ix (kx_list K) (pv 0) pe_int (fun _ _ => rfl)) (pe_ix (kx_list K) (pv 0) pe_int (fun _ _ => rfl))) (pe_ix (kx_list K) (pv 0) pe_int (fun _ _ => rfl))) (pe_ix (kx_list K) (pv 0) pe_int (fun _ _ => rfl))))), ?_⟩
    walk_at "go"
    refine ⟨a, _, _, _, rfl, rfl, hS, atI_nat (j := 4) rfl, ?_⟩
    walk_at "go"
    refine ⟨a, _, _, _, rfl, rfl, hS, atI_nat (j := 5) rfl, ?_⟩
    walk_at "go"
    refine ⟨a, _, _, _, rfl, rfl, hS, atI_nat (j := 2) rfl, ?_⟩
    walk_at "go"
    refine ⟨a, _, _, _, rfl, rfl, hS, atI_nat (j := 3) rfl, ?_⟩
    walk_at "go"
    exact q
abbrev N_owed_by : List Str := ["_law_order", "_law_line"]
abbrev P_owed_by : List Str := ["_law_order"]
theorem sc_owed_by : FnScope N_owed_by P_owed_by (defScope s_owed_by) := ⟨rfl, rfl, rfl, by decide +kernel, rfl, by decide +kernel, by decide +kernel⟩
def sp_owed_by (K : PySem.W.Frag) : Sp := fun vs H Q _ => ∃ (F : Hp) (o : OA) (m : Od), vs = [.ref o.a] ∧ OdAt K H F o m ∧ m.Ok ∧ ∀ H', Same H H' → Q (.int m.owed) H'
theorem c_owed_by (T : Blt mg) (c_line_worth : Cal P w K mg base CX0 1 "_law_line_worth" P_line_worth (sp_line_worth K)) (D : DefAt K mg "_law_owed_by" s_owed_by P_owed_by) : Cal P w K mg base CX0 2 "_law_owed_by" P_owed_by (sp_owed_by K) := by
  refine cal_of D sc_owed_by (fun vs H Q E h => ?_) (fun f cdv A outer s H vs Q E hr h => ?_)
  · obtain ⟨F, o, m, rfl, _⟩ := h
    rfl
  · obtain ⟨F, o, m, rfl, O, ok, q⟩ := h
    refine ⟨_, (pss_one (ps_ret (pe_op op_sub (pe_callB (kc_sum K rfl) (by rfl) T.m_sum (by decide +kernel) (pa_cons (pe_lc (own := [("_law_line", 1)]) (g := gName 1) (tt := tYes) rfl sc_owed_by.nd (ki_list K (pe_ix (kx_list K) (pv 0) pe_int (fun _ _ => rfl))) (blkOk_by (N := N_owed_by) (sc := defScope s_owed_by) (by decide +kernel)) (fun _ _ _ _ _ => pg_name (i := 1) sc_owed_by.nd rfl (Or.inl rfl)) (fun _ _ _ _ _ => pts_nil) (fun _ _ _ _ _ => (pe_op op_sub (pe_cal c_line_worth (hr.mono (by decide)) pass0 (pa_cons (pv 1) pa_nil)) (pe_ix (kx_list K) (pv 1) pe_int (fun _ _ => rfl))))) pa_nil)) (pe_ix (kx_list K) (pv 0) pe_int (fun _ _ => rfl))))), ?_⟩
    walk_at "go"
    refine ⟨o.a, _, _, _, rfl, rfl, SqL.of O.hd, atI_nat (j := 0) rfl, ?_⟩
    walk_at "go"
    refine ⟨⟨_, SqL.of O.hl⟩, fun D hD => ?_⟩
    refine lcD_list (fp := fun _ => False) ((m.lines.map Ln.charge).map PyData.int) (by simpa using O.len) (by have := ok.le; simp; omega) (SqL.of O.hl) hD has_none (fun i x d H8 R hx hd s8 _ k => ?_) (fun H8 ys s8 hd8 r8 _ => ?_)
    · rw [List.getElem?_map] at hx
      rw [List.getElem?_map, List.getElem?_map] at hd
      cases e : m.lines[i]? with
      | none => rw [e] at hd; cases hd
      | some l =>
        rw [e] at hd
        have hd := Option.some.inj hd
        subst hd
        cases e2 : o.lns[i]? with
        | none => rw [e2] at hx; cases hx
        | some y =>
          rw [e2] at hx
          have hx := Option.some.inj hx
          subst hx
          have hl := SqL.of (K := K) (s8 _ _ (O.ln i y l e2 e))
          walk_at "go"
          refine ⟨y, l, rfl, hl, ok.ln l (List.mem_of_getElem? e), ?_⟩
          walk_at "go"
          refine ⟨y, _, _, _, rfl, rfl, hl, atI_nat (j := 7) rfl, ?_⟩
          walk_at "go"
          exact k _ _ (Same.refl _) (.int _)
    · have hy := dpAll_ints_inv r8
      subst hy
      walk_at "go"
      refine ⟨D, _, rfl, SqL.of hd8, ?_⟩
      walk_at "go"
      refine ⟨o.a, _, _, _, rfl, rfl, SqL.of (s8 _ _ O.hd), atI_nat (j := 1) rfl, ?_⟩
      walk_at "go"
      exact q H8 s8
abbrev N_place_by : List Str := ["_law_cell", "_law_prime", "_law_size", "_law_some"]
abbrev P_place_by : List Str := ["_law_cell", "_law_prime", "_law_size"]
theorem sc_place_by : FnScope N_place_by P_place_by (defScope s_place_by) := ⟨rfl, rfl, rfl, by decide +kernel, rfl, by decide +kernel, by decide +kernel⟩
def sp_place_by : Sp := fun vs H Q _ => ∃ (c p n : Int), vs = [.int c, .int p, .int n] ∧ 0 < p ∧ ∀ i : Int, Q (.int i) H
theorem c_place_by (T : Blt mg) (D : DefAt K mg "_law_place_by" s_place_by P_place_by) : Cal P w K mg base CX0 1 "_law_place_by" P_place_by sp_place_by := by
  refine cal_of D sc_place_by (fun vs H Q E h => ?_) (fun f cdv A outer s H vs Q E hr h => ?_)
  · obtain ⟨c, p, n, rfl, _⟩ := h
    rfl
  · obtain ⟨c, p, n, rfl, hp, q⟩ := h
    refine ⟨_, (pss_cons (ps_set (i := 3) sc_place_by.nd rfl (Or.inl rfl) (pe_op op_mod (pe_op op_mod (pe_op op_mul (pv 0) pe_int) (pv 1)) pe_int))
      (pss_cons (ps_if (pt_cmpR op_eq (pv 3) pe_int (nomark _))
        (pss_one (ps_ret (pe_op op_sub (pe_un un_neg pe_int) (pe_op op_mod (pv 0) pe_int))))
        pss_nil)
      (pss_cons (ps_if (pt_cmpR op_eq (pv 3) pe_int (nomark _))
        (pss_one (ps_ret (pe_op op_add (pv 2) (pe_op op_mod (pv 0) pe_int))))
        pss_nil)
      (pss_one (ps_ret (pe_op op_mod (pe_op op_mod (pe_op op_mul (pv 0) pe_int) (pe_op op_add (pv 1) pe_int)) (pe_callB (call_max2 rfl) (by rfl) T.m_max (by decide +kernel) (pa_cons pe_int (pa_cons (pv 2) pa_nil))))))))), ?_⟩
    walk_at "go"
    refine ite2 (fun h => ?_) (fun h => ?_)
    · walk_at "go"
      exact q _
    · walk_at "go"
      refine ite2 (fun h => ?_) (fun h => ?_)
      · walk_at "go"
        exact q _
      · walk_at "go"
        have : (0 : Int) < (if 1 < n then n else 1) := by split <;> omega
        exact q _
abbrev N_number_by : List Str := ["_law_cell", "_law_most_here", "_law_way"]
abbrev P_number_by : List Str := ["_law_cell", "_law_most_here"]
theorem sc_number_by : FnScope N_number_by P_number_by (defScope s_number_by) := ⟨rfl, rfl, rfl, by decide +kernel, rfl, by decide +kernel, by decide +kernel⟩
def sp_number_by : Sp := fun vs H Q _ => ∃ (c n : Int), vs = [.int c, .int n] ∧ ∀ i : Int, Q (.int i) H
theorem c_number_by (T : Blt mg) (D : DefAt K mg "_law_number_by" s_number_by P_number_by) : Cal P w K mg base CX0 1 "_law_number_by" P_number_by sp_number_by := by
  refine cal_of D sc_number_by (fun vs H Q E h => ?_) (fun f cdv A outer s H vs Q E hr h => ?_)
  · obtain ⟨c, n, rfl, _⟩ := h
    rfl
  · obtain ⟨c, n, rfl, q⟩ := h
    refine ⟨_, (pss_cons (ps_set (i := 2) sc_number_by.nd rfl (Or.inl rfl) (pe_op op_mod (pe_op op_mod (pe_op op_mul (pv 0) pe_int) pe_int) pe_int))
      (pss_cons (ps_if (pt_cmpR op_eq (pv 2) pe_int (nomark _))
        (pss_one (ps_ret (pe_un un_neg (pe_op op_mod (pv 0) pe_int))))
        pss_nil)
      (pss_cons (ps_if (pt_cmpR op_eq (pv 2) pe_int (nomark _))
        (pss_one (ps_ret (pe_op op_add (pv 1) pe_int)))
        pss_nil)
      (pss_cons (ps_if (PW.pt (pw_or (pt_cmpR op_eq (pv 2) pe_int (nomark _)) (pw_or1 (pt_cmpR op_eq (pv 2) pe_int (nomark _)))))
        (pss_one (ps_ret (pv 1)))
        pss_nil)
      (pss_cons (ps_if (pt_cmpR op_eq (pv 2) pe_int (nomark _))
        (pss_one (ps_ret (pe_op op_add pe_int (pe_op op_mod (pv 0) (pe_op op_pow pe_int pe_int)))))
        pss_nil)
      (pss_one (ps_ret (pe_op op_add pe_int (pe_op op_mod (pv 0) (pe_callB (call_max2 rfl) (by rfl) T.m_max (by decide +kernel) (pa_cons pe_int (pa_cons (pv 1) pa_nil)))))))))))), ?_⟩
    walk_at "go"
    walk_at "fork"
    all_goals exact q _
end
section
variable {P : Program} {w : World} {K : PySem.W.Frag} {mg : Str → Option Value} {base : Heap}
/-! ### deeds drawn: an item, lines, a deed of the right shape (which one is not told) -/
theorem sum_ones (cs : List Nat) : ((cs.map fun c => (⟨#[c]⟩ : Str)).map (·.length)).sum = cs.length := by
  induction cs with
  | nil => rfl
  | cons c r ih => rw [List.map_cons, List.map_cons, List.sum_cons, ih, List.length_cons]; show 1 + _ = _; omega
abbrev N_item_by : List Str := ["_law_cell", "_law_some", "_law_k"]
abbrev P_item_by : List Str := ["_law_cell"]
theorem sc_item_by : FnScope N_item_by P_item_by (defScope s_item_by) := ⟨rfl, rfl, rfl, by decide +kernel, rfl, by decide +kernel, by decide +kernel⟩
def sp_item_by : Sp := fun vs H Q _ => ∃ (c : Int), vs = [.int c] ∧ ∀ H' z, Same H H' → IsItem z → Q (.str z) H'
theorem c_item_by (T : Blt mg) (D : DefAt K mg "_law_item_by" s_item_by P_item_by) : Cal P w K mg base CX0 1 "_law_item_by" P_item_by sp_item_by := by
  refine cal_of D sc_item_by (fun vs H Q E h => ?_) (fun f cdv A outer s H vs Q E hr h => ?_)
  · obtain ⟨c, rfl, _⟩ := h
    rfl
  · obtain ⟨c, rfl, q⟩ := h
    refine ⟨_, (pss_cons (ps_set (i := 1) sc_item_by.nd rfl (Or.inr rfl) pe_str)
      (pss_one (ps_ret (pe_join pe_str (pe_lc (own := [("_law_k", 2)]) (g := gName 2) (tt := tYes) rfl sc_item_by.nd (pi_range1 (by rfl) T.m_range (pa_cons (pe_op op_add pe_int (pe_op op_mod (pe_op op_mod (pe_op op_mul (pv 0) pe_int) pe_int) pe_int)) pa_nil)) (blkOk_by (N := N_item_by) (sc := defScope s_item_by) (by decide +kernel)) (fun _ _ _ _ _ => pg_name (i := 2) sc_item_by.nd rfl (Or.inl rfl)) (fun _ _ _ _ _ => pts_nil) (fun _ _ _ _ _ => (pe_ix ix_str (pv 1) (pe_op op_mod (pe_op op_add (pe_op op_add (pe_op op_fdiv (pv 0) pe_int) (pe_op op_mul pe_int (pv 2))) (pv 0)) pe_int) (fun _ _ => rfl)))))))), ?_⟩
    have m12 : 0 ≤ c * 48271 % 10079 % 12 ∧ c * 48271 % 10079 % 12 < 12 := ⟨Int.emod_nonneg _ (by decide), Int.emod_lt_of_pos _ (by decide)⟩
    walk_at "go"
    intro D hD
    refine lcD_range (K := K) (fp := fun _ => False) (((List.range (1 + c * 48271 % 10079 % 12).toNat).map fun k : Nat => 97 + ((c / 26 + 7 * (0 + (k : Int)) + c) % 26).toNat).map fun s => PyData.str ⟨#[s]⟩) (by simp) (by simp; omega) hD has_none (fun i d H8 R hi hd s8 _ k => ?_) (fun H8 ys s8 hd8 r8 _ => ?_)
    · rw [List.getElem?_map, List.getElem?_map, List.getElem?_range hi] at hd
      have hd := Option.some.inj hd
      subst hd
      walk_at "go"
      refine ⟨_, _, _, rfl, rfl, alpha_len, alpha_mod _, ?_⟩
      exact k _ _ (Same.refl _) (.str _)
    · have hy : ∀ (cs : List Nat) (ys : List V) (F : Hp), DpAll K F ys (cs.map fun s => PyData.str ⟨#[s]⟩) → ys = (cs.map fun c => (⟨#[c]⟩ : Str)).map V.str := by
        intro cs
        induction cs with
        | nil => intro ys F h; cases h; rfl
        | cons c r ih => intro ys F h; cases h with
          | cons p t => rw [dp_str p, ih _ _ t]; rfl
      rw [hy _ _ _ r8] at hd8
      revert hd8
      have hl : ∀ cs : List Nat, cs = ((List.range (1 + c * 48271 % 10079 % 12).toNat).map fun k : Nat => 97 + ((c / 26 + 7 * (0 + (k : Int)) + c) % 26).toNat) → 1 ≤ cs.length ∧ cs.length ≤ 12 ∧ ∀ x ∈ cs, 97 ≤ x ∧ x ≤ 122 := by
        rintro _ rfl
        refine ⟨by simp; omega, by simp; omega, fun x hx => ?_⟩
        obtain ⟨k, _, rfl⟩ := List.mem_map.mp hx
        have h0 := Int.emod_nonneg (c / 26 + 7 * (0 + (k : Int)) + c) (show (26 : Int) ≠ 0 by decide)
        have h1 := Int.emod_lt_of_pos (c / 26 + 7 * (0 + (k : Int)) + c) (show (0 : Int) < 26 by decide)
        omega
      have hl := hl _ rfl
      revert hl
      generalize ((List.range (1 + c * 48271 % 10079 % 12).toNat).map fun k : Nat => 97 + ((c / 26 + 7 * (0 + (k : Int)) + c) % 26).toNat) = cs
      rintro ⟨l0, l1, la⟩ hd8
      walk_at "go"
      refine ⟨_, D, cs.map fun c => (⟨#[c]⟩ : Str), rfl, rfl, .inl (SqL.of hd8), ?_, ?_⟩
      · rw [sum_ones, List.length_map, len_cps, empty_cps]
        show cs.length + cs.length * 0 ≤ _
        omega
      · rw [join_signs empty_cps]
        exact q _ _ s8 (isItem_of l0 l1 la)
abbrev N_lines_by : List Str := ["_law_cell", "_law_lines", "_law_many", "_law_k", "_law_more", "_law_item"]
abbrev P_lines_by : List Str := ["_law_cell"]
theorem sc_lines_by : FnScope N_lines_by P_lines_by (defScope s_lines_by) := ⟨rfl, rfl, rfl, by decide +kernel, rfl, by decide +kernel, by decide +kernel⟩
def sp_lines_by (K : PySem.W.Frag) : Sp := fun vs H Q _ => ∃ (c : Int) (fp : Addr → Prop), vs = [.int c] ∧ Has fp H ∧ ∀ H' p (ls : List LineT), Same H H' → 1 ≤ ls.length → ls.length ≤ 20 → (∀ t ∈ ls, t.Ok) → H p = none → Dp K (off fp H') (.ref p) (.list (ls.map lineD)) → Q (.ref p) H'
theorem c_lines_by (T : Blt mg) (c_item_by : Cal P w K mg base CX0 1 "_law_item_by" P_item_by sp_item_by) (D : DefAt K mg "_law_lines_by" s_lines_by P_lines_by) : Cal P w K mg base CX0 2 "_law_lines_by" P_lines_by (sp_lines_by K) := by
  refine cal_of D sc_lines_by (fun vs H Q E h => ?_) (fun f cdv A outer s H vs Q E hr h => ?_)
  · obtain ⟨c, fp, rfl, _⟩ := h
    rfl
  · obtain ⟨c, fp, rfl, hf, q⟩ := h
    refine ⟨_, (pss_cons (ps_set (i := 1) sc_lines_by.nd rfl (Or.inl rfl) (pe_lst pa_nil))
      (pss_cons (ps_set (i := 2) sc_lines_by.nd rfl (Or.inl rfl) (pe_op op_add pe_int (pe_op op_mod (pe_op op_mod (pe_op op_mul (pv 0) pe_int) pe_int) pe_int)))
      (Evl.pss_cut (ps_if (pt_cmpR op_eq (pe_op op_mod (pe_op op_mod (pe_op op_mul (pv 0) pe_int) pe_int) pe_int) pe_int (nomark _))
        (pss_one (ps_set (i := 2) sc_lines_by.nd rfl (Or.inl rfl) (pe_op op_add pe_int (pe_op op_mod (pv 0) pe_int))))
        pss_nil)
      (pss_cons (ps_for PassesOwn.never rfl (pi_range1 (by rfl) T.m_range (pa_cons (pv 2) pa_nil)) (pg_name (i := 3) sc_lines_by.nd rfl (Or.inl rfl))
        (pss_cons (ps_set (i := 4) sc_lines_by.nd rfl (Or.inl rfl) (pe_op op_add (pe_op op_fdiv (pv 0) (pe_op op_add (pv 3) pe_int)) (pe_op op_mul pe_int (pv 3))))
        (pss_cons (ps_set (i := 5) sc_lines_by.nd rfl (Or.inl rfl) (pe_cal c_item_by (hr.mono (by decide)) pass0 (pa_cons (pv 4) pa_nil)))
        (Evl.pss_cut (ps_if (pt_cmpR op_eq (pe_op op_mod (pe_op op_mod (pe_op op_mul (pv 0) pe_int) pe_int) pe_int) pe_int (nomark _))
          (pss_one (ps_set (i := 5) sc_lines_by.nd rfl (Or.inl rfl) (pe_cal c_item_by (hr.mono (by decide)) pass0 (pa_cons (pe_op op_fdiv (pv 0) pe_int) pa_nil))))
          pss_nil)
        (pss_one (ps_if (pt_cmpR op_eq (pe_op op_mod (pe_op op_mod (pe_op op_mul (pv 0) pe_int) pe_int) pe_int) pe_int (nomark _))
          (pss_one (ps_expr (pe_bm PySem.F.plainAttrs_list PySem.F.slot_list_append PySem.F.type_list_append mt_append (pv 1) (pa_cons (pe_tup (pa_cons (pv 5) (pa_cons (pe_op op_add pe_int (pe_op op_mod (pv 4) pe_int)) (pa_cons (pe_op op_mod (pe_op op_mul (pv 4) pe_int) pe_int) (pa_cons (pe_op op_add pe_int (pe_op op_mod (pv 4) pe_int)) pa_nil))))) pa_nil))))
          (pss_one (ps_expr (pe_bm PySem.F.plainAttrs_list PySem.F.slot_list_append PySem.F.type_list_append mt_append (pv 1) (pa_cons (pe_tup (pa_cons (pv 5) (pa_cons (pe_op op_add pe_int (pe_op op_mod (pv 4) pe_int)) (pa_cons (pe_op op_mod (pe_op op_mod (pe_op op_mul (pv 4) pe_int) pe_int) pe_int) (pa_cons (pe_op op_add pe_int (pe_op op_mod (pe_op op_fdiv (pv 4) pe_int) pe_int)) pa_nil))))) pa_nil))))))))))
      (pss_one (ps_ret (pv 1))))))), ?_⟩
    walk_at "go"
    intro p hp
    have s1 : Same H _ := same_new (o := .lst []) hp
    walk_at "go"
    refine ⟨fun σ H' => ∃ n : Int, σ = [some (.int c), some (.ref p), some (.int n), none, none, none] ∧ H' = upd H p (.lst []) ∧ 1 ≤ n ∧ n ≤ 20, ?_, ?_⟩
    · walk_at "go"
      walk_at "fork"
      all_goals omega
    rintro σ H1 ⟨n, rfl, rfl, n0, n1⟩
    walk_at "go"
    refine for_range (lo := 0) (n := n.toNat) (fun i σ H' => ∃ (ls : List LineT) (ys : List V) (v3 v4 v5 : Option V), σ = [some (.int c), some (.ref p), some (.int n), v3, v4, v5] ∧ Same H H' ∧ H' p = some (.lst ys) ∧ DpAll K (off (And1 fp p) H') ys (ls.map lineD) ∧ ls.length = i ∧ ∀ t ∈ ls, t.Ok)
      ⟨[], [], none, none, none, rfl, s1, upd_same, .nil, rfl, fun t h => by cases h⟩ ?_ ?_
    · rintro i σ H2 hi ⟨ls, ys, v3, v4, v5, rfl, s2, hp2, hy, hl, ok⟩
      walk_at "go"
      intro H3 z s3 iz
      walk_at "go"
      refine ⟨fun σ H' => ∃ z : Str, σ = [some (.int c), some (.ref p), some (.int n), some (.int (0 + (i : Int))), some (.int (c / (0 + (i : Int) + 1) + 5 * (0 + (i : Int)))), some (.str z)] ∧ Same H2 H' ∧ IsItem z, ?_, ?_⟩
      · walk_at "go"
        refine ite2 (fun h => ?_) (fun h => ?_)
        · walk_at "go"
          exact fun H4 y s4 iy => ⟨_, rfl, s3.trans s4, iy⟩
        · exact ⟨_, rfl, s3, iz⟩
      rintro σ H4 ⟨z, rfl, s4, iz⟩
      generalize c / (0 + (i : Int) + 1) + 5 * (0 + (i : Int)) = m
      have hp4 := s4 _ _ hp2
      have hfa : Has (And1 fp p) H4 := (hf.same (s2.trans s4)).and1 (by rw [hp4]; exact fun z => nomatch z)
      have fin : ∀ (t : LineT) (q : Addr), t.item = z → t.Ok → H4 q = none → ∃ (ls' : List LineT) (ys' : List V) (v3 v4 v5 : Option V), ([some (.int c), some (.ref p), some (.int n), some (.int (0 + (i : Int))), some (.int m), some (.str z)] : List (Option V)) = [some (.int c), some (.ref p), some (.int n), v3, v4, v5] ∧ Same H (upd (upd H4 q (.tup [.str t.item, .int t.pieces, .int t.cents, .int t.pack])) p (.lst (ys ++ [.ref q]))) ∧
          (upd (upd H4 q (.tup [.str t.item, .int t.pieces, .int t.cents, .int t.pack])) p (.lst (ys ++ [.ref q]))) p = some (.lst ys') ∧ DpAll K (off (And1 fp p) (upd (upd H4 q (.tup [.str t.item, .int t.pieces, .int t.cents, .int t.pack])) p (.lst (ys ++ [.ref q])))) ys' (ls'.map lineD) ∧ ls'.length = i + 1 ∧ ∀ t ∈ ls', t.Ok := by
        intro t q et ot hq
        have s5 : Same H4 _ := same_new (o := .tup [.str t.item, .int t.pieces, .int t.cents, .int t.pack]) hq
        refine ⟨ls ++ [t], ys ++ [.ref q], _, _, _, rfl, same_mut ((s2.trans s4).trans s5) hp, upd_same, ?_, by rw [List.length_append, hl]; rfl, fun t' ht' => ?_⟩
        · rw [off_upd (Or.inr rfl), List.map_append]
          refine (hy.same (off_mono (s4.trans s5))).append (.cons ?_ .nil)
          exact dp_tup_new hfa hq (.cons (.str _) (.cons (.int _) (.cons (.int _) (.cons (.int _) .nil))))
        · rcases List.mem_append.mp ht' with h | h
          · exact ok t' h
          · rw [List.mem_singleton] at h
            subst h
            exact ot
      have hyl := hy.length
      rw [List.length_map] at hyl
      walk_at "go"
      refine ite2 (fun h => ?_) (fun h => ?_)
      · walk_at "go"
        refine ⟨.inl ⟨rfl, _, SqL.of hp4⟩, ?_⟩
        walk_at "go"
        intro q hq
        walk_at "go"
        have np : p ≠ q := ne_of_none hp4 hq
        refine ⟨p, ys, _, rfl, rfl, by rw [upd_ne np]; exact hp4, Evl.sz_lt (by omega), ?_⟩
        exact fin ⟨z, 1 + m % 1000000, m * 48271 % 1000000001, 1 + m % 1000⟩ q rfl ⟨by show 1 ≤ 1 + m % 1000000; omega, by show 1 + m % 1000000 ≤ 1000000; omega, by show 0 ≤ m * 48271 % 1000000001; omega, by show m * 48271 % 1000000001 ≤ _; omega, by show 1 ≤ 1 + m % 1000; omega, by show 1 + m % 1000 ≤ _; omega, iz.i0, iz.i1, iz.ia⟩ hq
      · walk_at "go"
        refine ⟨.inl ⟨rfl, _, SqL.of hp4⟩, ?_⟩
        walk_at "go"
        intro q hq
        walk_at "go"
        have np : p ≠ q := ne_of_none hp4 hq
        refine ⟨p, ys, _, rfl, rfl, by rw [upd_ne np]; exact hp4, Evl.sz_lt (by omega), ?_⟩
        exact fin ⟨z, 1 + m % 9, m * 48271 % 10091 % 200, 1 + m / 9 % 4⟩ q rfl ⟨by show 1 ≤ 1 + m % 9; omega, by show 1 + m % 9 ≤ 1000000; omega, by show 0 ≤ m * 48271 % 10091 % 200; omega, by show m * 48271 % 10091 % 200 ≤ _; omega, by show 1 ≤ 1 + m / 9 % 4; omega, by show 1 + m / 9 % 4 ≤ _; omega, iz.i0, iz.i1, iz.ia⟩ hq
    · rintro σ H2 ⟨ls, ys, v3, v4, v5, rfl, s2, hp2, hy, hl, ok⟩
      walk_at "go"
      refine q H2 p ls s2 (by omega) (by omega) ok hp (.lst (.inl (.inl ?_)) (hy.same (off_less fun _ z => .inl z)))
      rw [off_out (hf.new hp)]
      exact hp2
end
section
variable {P : Program} {w : World} {K : PySem.W.Frag} {mg : Str → Option Value} {base : Heap}
abbrev N_most : List Str := ["_law_word", "_law_at", "_law_place", "_law_orders", "_law_owed", "_law_line"]
abbrev P_most : List Str := ["_law_word", "_law_at", "_law_place", "_law_orders"]
theorem sc_most : FnScope N_most P_most (defScope s_most) := ⟨rfl, rfl, rfl, by decide +kernel, rfl, by decide +kernel, by decide +kernel⟩
def sp_most (K : PySem.W.Frag) : Sp := fun vs H Q _ => ∃ (fp own : Addr → Prop) (p : Addr) (os : List OA) (M : List Od) (wd : Str) (a pl : Int), vs = [.str wd, .int a, .int pl, .ref p] ∧ Acc K fp own H p os M ∧ WF M ∧ ∀ H', Same H H' → Q (.int (mostM wd a pl M)) H'
theorem c_most (T : Blt mg) (c_line_worth : Cal P w K mg base CX0 1 "_law_line_worth" P_line_worth (sp_line_worth K)) (c_owed_by : Cal P w K mg base CX0 2 "_law_owed_by" P_owed_by (sp_owed_by K)) (D : DefAt K mg "_law_most" s_most P_most) : Cal P w K mg base CX0 3 "_law_most" P_most (sp_most K) := by
  refine cal_of D sc_most (fun vs H Q E h => ?_) (fun f cdv A outer s H vs Q E hr h => ?_)
  · obtain ⟨fp, own, p, os, M, wd, a, pl, rfl, _⟩ := h
    rfl
  · obtain ⟨fp, own, p, os, M, wd, a, pl, rfl, AC, W, q⟩ := h
    refine ⟨_, (pss_cons (ps_if (pt_not (pt_chain op_le op_lt pe_int (pv 1) (pe_callB (kc_len K) (by rfl) T.m_len PySem.boot_len (pa_cons (pv 3) pa_nil))))
        (pss_one (ps_ret pe_int))
        pss_nil)
      (pss_cons (ps_set (i := 4) sc_most.nd rfl (Or.inl rfl) (pe_cal c_owed_by (hr.mono (by decide)) pass0 (pa_cons (pe_ix (kx_list K) (pv 3) (pv 1) (fun _ _ => rfl)) pa_nil)))
      (pss_cons (ps_if (pt_cmpR op_eq (pv 0) pe_str (nomark _))
        (pss_one (ps_ret (pv 4)))
        pss_nil)
      (pss_cons (ps_if (PW.pt (pw_or (pt_cmpR op_eq (pv 0) pe_str (nomark _)) (pw_or1 (pt_cmpR op_eq (pv 0) pe_str (nomark _)))))
        (pss_one (ps_ret (pe_un un_neg (pv 4))))
        pss_nil)
      (pss_cons (ps_if (pt_not (pt_chain op_le op_lt pe_int (pv 2) (pe_callB (kc_len K) (by rfl) T.m_len PySem.boot_len (pa_cons (pe_ix (kx_list K) (pe_ix (kx_list K) (pv 3) (pv 1) (fun _ _ => rfl)) pe_int (fun _ _ => rfl)) pa_nil))))
        (pss_one (ps_ret pe_int))
        pss_nil)
      (pss_cons (ps_set (i := 5) sc_most.nd rfl (Or.inl rfl) (pe_ix (kx_list K) (pe_ix (kx_list K) (pe_ix (kx_list K) (pv 3) (pv 1) (fun _ _ => rfl)) pe_int (fun _ _ => rfl)) (pv 2) (fun _ _ => rfl)))
      (pss_cons (ps_if (pt_cmpR op_eq (pv 0) pe_str (nomark _))
        (pss_one (ps_ret (pe_op op_add (pe_op op_sub (pe_ix (kx_list K) (pv 5) pe_int (fun _ _ => rfl)) (pe_ix (kx_list K) (pv 5) pe_int (fun _ _ => rfl))) (pe_ix (kx_list K) (pv 5) pe_int (fun _ _ => rfl)))))
        pss_nil)
      (pss_cons (ps_if (pt_cmpR op_eq (pv 0) pe_str (nomark _))
        (pss_one (ps_ret (pe_op op_sub (pe_cal c_line_worth (hr.mono (by decide)) pass0 (pa_cons (pv 5) pa_nil)) (pe_ix (kx_list K) (pv 5) pe_int (fun _ _ => rfl)))))
        pss_nil)
      (pss_one (ps_ret (pe_op op_sub (pe_ix (kx_list K) (pv 5) pe_int (fun _ _ => rfl)) (pe_ix (kx_list K) (pv 5) pe_int (fun _ _ => rfl))))))))))))), ?_⟩
    have out : ∀ i : Int, mostM wd a pl M = i → ∀ H', Same H H' → Q (.int i) H' := fun i e H' s => e ▸ q H' s
    walk_at "go"
    refine ite2 (fun h0 => ?_) (fun h0 => ?_)
    rotate_left
    · walk_at "go"
      exact out 5 (if_pos (inR_no fun z => h0 (decide_eq_true z.1))) _ (Same.refl _)
    have h0 := of_decide_eq_true h0
    walk_at "go"
    refine ⟨p, _, rfl, .inl (SqL.of AC.top), ?_⟩
    walk_at "go"
    rw [List.length_map, AC.len]
    by_cases h1 : a < (M.length : Int)
    rotate_left
    · rw [decide_eq_false h1]
      walk_at "go"
      exact out 5 (if_pos (inR_no fun z => h1 z.2)) _ (Same.refl _)
    rw [decide_eq_true h1]
    have eR : ¬ inR a M.length = false := by rw [inR_iff.mpr ⟨h0, h1⟩]; exact Bool.noConfusion
    obtain ⟨o, ho, hat, hm, O⟩ := AC.at_ h0 h1
    have ok := W.at_ h0 h1
    walk_at "go"
    refine ⟨p, _, _, _, rfl, rfl, SqL.of AC.top, hat, ?_⟩
    refine ⟨off fp H, o, _, rfl, O, ok, fun H1 s1 => ?_⟩
    have AC1 := AC.same s1
    obtain ⟨o1, ho1, hat1, hm1, O1⟩ := AC1.at_ h0 h1
    rw [ho] at ho1; cases ho1
    walk_at "go"
    refine ite2 (fun h2 => ?_) (fun h2 => ?_)
    · walk_at "go"
      refine out _ ?_ H1 s1
      unfold mostM
      rw [if_neg eR, if_pos (str_yes h2)]
    have n2 := str_not h2
    walk_at "go"
    refine ite2 (fun h3 => ?_) (fun h3 => ?_)
    · walk_at "go"
      refine out _ ?_ H1 s1
      unfold mostM
      rw [if_neg eR, if_neg n2, if_pos (.inl (str_yes h3))]
    walk_at "go"
    refine ite2 (fun h4 => ?_) (fun h4 => ?_)
    · walk_at "go"
      refine out _ ?_ H1 s1
      unfold mostM
      rw [if_neg eR, if_neg n2, if_pos (.inr (str_yes h4))]
    have n34 : ¬ (wd = "refund" ∨ wd = "move") := fun z => z.elim (str_not h3) (str_not h4)
    walk_at "go"
    refine ite2 (fun h5 => ?_) (fun h5 => ?_)
    rotate_left
    · walk_at "go"
      refine out 5 ?_ H1 s1
      unfold mostM
      rw [if_neg eR, if_neg n2, if_neg n34, if_pos (inR_no fun z => h5 (decide_eq_true z.1))]
    have h5 := of_decide_eq_true h5
    walk_at "go"
    refine ⟨p, _, _, _, rfl, rfl, SqL.of AC1.top, hat1, ?_⟩
    walk_at "go"
    refine ⟨o.a, _, _, _, rfl, rfl, SqL.of O1.hd, atI_nat (j := 0) rfl, ?_⟩
    walk_at "go"
    refine ⟨o.ls, _, rfl, .inl (SqL.of O1.hl), ?_⟩
    walk_at "go"
    rw [List.length_map, O1.len]
    by_cases h6 : pl < ((ordAt M a).lines.length : Int)
    rotate_left
    · rw [decide_eq_false h6]
      walk_at "go"
      refine out 5 ?_ H1 s1
      unfold mostM
      rw [if_neg eR, if_neg n2, if_neg n34, if_pos (inR_no fun z => h6 z.2)]
    rw [decide_eq_true h6]
    have eL : ¬ inR pl (ordAt M a).lines.length = false := by rw [inR_iff.mpr ⟨h5, h6⟩]; exact Bool.noConfusion
    obtain ⟨x, hx, hxt, hl, hX⟩ := O1.at_ h5 h6
    have lok := ok.at_ h5 h6
    walk_at "go"
    refine ⟨p, _, _, _, rfl, rfl, SqL.of AC1.top, hat1, ?_⟩
    walk_at "go"
    refine ⟨o.a, _, _, _, rfl, rfl, SqL.of O1.hd, atI_nat (j := 0) rfl, ?_⟩
    walk_at "go"
    refine ⟨o.ls, _, _, _, rfl, rfl, SqL.of O1.hl, hxt, ?_⟩
    walk_at "go"
    have eM : mostM wd a pl M = mostL wd (lnAt (ordAt M a) pl) := by
      unfold mostM
      rw [if_neg eR, if_neg n2, if_neg n34, if_neg eL]
    refine ite2 (fun h7 => ?_) (fun h7 => ?_)
    · walk_at "go"
      refine ⟨x, _, _, _, rfl, rfl, SqL.of hX, atI_nat (j := 1) rfl, ?_⟩
      walk_at "go"
      refine ⟨x, _, _, _, rfl, rfl, SqL.of hX, atI_nat (j := 4) rfl, ?_⟩
      walk_at "go"
      refine ⟨x, _, _, _, rfl, rfl, SqL.of hX, atI_nat (j := 6) rfl, ?_⟩
      walk_at "go"
      refine out _ ?_ H1 s1
      rw [eM]
      exact if_pos (str_yes h7)
    walk_at "go"
    refine ite2 (fun h8 => ?_) (fun h8 => ?_)
    · walk_at "go"
      refine ⟨x, _, rfl, SqL.of hX, lok, ?_⟩
      walk_at "go"
      refine ⟨x, _, _, _, rfl, rfl, SqL.of hX, atI_nat (j := 7) rfl, ?_⟩
      walk_at "go"
      refine out _ ?_ H1 s1
      rw [eM]
      unfold mostL
      rw [if_neg (str_not h7), if_pos (str_yes h8)]
      rfl
    walk_at "go"
    refine ⟨x, _, _, _, rfl, rfl, SqL.of hX, atI_nat (j := 4) rfl, ?_⟩
    walk_at "go"
    refine ⟨x, _, _, _, rfl, rfl, SqL.of hX, atI_nat (j := 5) rfl, ?_⟩
    walk_at "go"
    refine out _ ?_ H1 s1
    rw [eM]
    unfold mostL
    rw [if_neg (str_not h7), if_neg (str_not h8)]
end
section
variable {P : Program} {w : World} {K : PySem.W.Frag} {mg : Str → Option Value} {base : Heap}
abbrev N_deed_by : List Str := ["_law_cell", "_law_more", "_law_orders", "_law_words", "_law_word", "_law_at", "_law_other", "_law_size", "_law_place"]
abbrev P_deed_by : List Str := ["_law_cell", "_law_more", "_law_orders"]
theorem sc_deed_by : FnScope N_deed_by P_deed_by (defScope s_deed_by) := ⟨rfl, rfl, rfl, by decide +kernel, rfl, by decide +kernel, by decide +kernel⟩
def sp_deed_by (K : PySem.W.Frag) : Sp := fun vs H Q _ => ∃ (fp own : Addr → Prop) (p : Addr) (os : List OA) (M : List Od) (c m : Int), vs = [.int c, .int m, .ref p] ∧ Acc K fp own H p os M ∧ WF M ∧ Has fp H ∧
  ∀ H' v d, Same H H' → d.Shape → d.LinesOk → (∀ ls, d = .ord ls → M.length < 4) → Dp K (off fp H') v (deedD d) → Q v H'
theorem c_deed_by (T : Blt mg) (c_lines_by : Cal P w K mg base CX0 2 "_law_lines_by" P_lines_by (sp_lines_by K)) (c_place_by : Cal P w K mg base CX0 1 "_law_place_by" P_place_by sp_place_by) (c_number_by : Cal P w K mg base CX0 1 "_law_number_by" P_number_by sp_number_by)
    (c_most : Cal P w K mg base CX0 3 "_law_most" P_most (sp_most K)) (D : DefAt K mg "_law_deed_by" s_deed_by P_deed_by) : Cal P w K mg base CX0 4 "_law_deed_by" P_deed_by (sp_deed_by K) := by
  refine cal_of D sc_deed_by (fun vs H Q E h => ?_) (fun f cdv A outer s H vs Q E hr h => ?_)
  · obtain ⟨fp, own, p, os, M, c, m, rfl, _⟩ := h
    rfl
  · obtain ⟨fp, own, p, os, M, c, m, rfl, AC, W, hf, q⟩ := h
    refine ⟨_, (pss_cons (ps_set (i := 3) sc_deed_by.nd rfl (Or.inl rfl) (pe_lst (pa_cons pe_str (pa_cons pe_str (pa_cons pe_str (pa_cons pe_str (pa_cons pe_str (pa_cons pe_str (pa_cons pe_str (pa_cons pe_str (pa_cons pe_str pa_nil)))))))))))
      (pss_cons (ps_set (i := 3) sc_deed_by.nd rfl (Or.inl rfl) (pe_op op_cat (pv 3) (pe_lst (pa_cons pe_str (pa_cons pe_str (pa_cons pe_str pa_nil))))))
      (pss_cons (ps_set (i := 4) sc_deed_by.nd rfl (Or.inl rfl) (pe_ix (kx_list K) (pv 3) (pe_op op_mod (pe_op op_mod (pe_op op_mul (pv 0) pe_int) pe_int) pe_int) (fun _ _ => rfl)))
      (Evl.pss_cut (ps_if (PW.pt (pw_or (pt_cmpR (ko_eqD K hr.units) (pv 2) (pe_lst pa_nil) (nomark _)) (pw_or1 (PW.pt (pw_and (pt_cmpR op_eq (pv 4) pe_str (nomark _)) (pw_and1 (pt_cmpR op_lt (pe_callB (kc_len K) (by rfl) T.m_len PySem.boot_len (pa_cons (pv 2) pa_nil)) pe_int (nomark _))))))))
        (pss_one (ps_ret (pe_tup (pa_cons pe_str (pa_cons (pe_cal c_lines_by (hr.mono (by decide)) pass0 (pa_cons (pv 1) pa_nil)) pa_nil)))))
        pss_nil)
      (Evl.pss_cut (ps_if (pt_cmpR op_eq (pv 4) pe_str (nomark _))
        (pss_one (ps_set (i := 4) sc_deed_by.nd rfl (Or.inl rfl) pe_str))
        pss_nil)
      (pss_cons (ps_set (i := 5) sc_deed_by.nd rfl (Or.inl rfl) (pe_cal c_place_by (hr.mono (by decide)) pass0 (pa_cons (pv 0) (pa_cons pe_int (pa_cons (pe_callB (kc_len K) (by rfl) T.m_len PySem.boot_len (pa_cons (pv 2) pa_nil)) pa_nil)))))
      (Evl.pss_cut (ps_if (PW.pt (pw_or (pt_cmpR op_eq (pv 4) pe_str (nomark _)) (pw_or1 (pt_cmpR op_eq (pv 4) pe_str (nomark _)))))
        (pss_one (ps_ret (pe_tup (pa_cons (pv 4) (pa_cons (pv 5) (pa_cons (pe_cal c_number_by (hr.mono (by decide)) pass0 (pa_cons (pv 1) (pa_cons (pe_cal c_most (hr.mono (by decide)) pass0 (pa_cons (pv 4) (pa_cons (pv 5) (pa_cons pe_int (pa_cons (pv 2) pa_nil))))) pa_nil))) pa_nil))))))
        pss_nil)
      (pss_cons (ps_if (pt_cmpR op_eq (pv 4) pe_str (nomark _))
        (pss_cons (ps_set (i := 6) sc_deed_by.nd rfl (Or.inl rfl) (pe_cal c_place_by (hr.mono (by decide)) pass0 (pa_cons (pv 1) (pa_cons pe_int (pa_cons (pe_callB (kc_len K) (by rfl) T.m_len PySem.boot_len (pa_cons (pv 2) pa_nil)) pa_nil)))))
        (pss_one (ps_ret (pe_tup (pa_cons (pv 4) (pa_cons (pv 5) (pa_cons (pv 6) (pa_cons (pe_cal c_number_by (hr.mono (by decide)) pass0 (pa_cons (pv 1) (pa_cons (pe_cal c_most (hr.mono (by decide)) pass0 (pa_cons (pv 4) (pa_cons (pv 5) (pa_cons pe_int (pa_cons (pv 2) pa_nil))))) pa_nil))) pa_nil))))))))
        pss_nil)
      (pss_cons (ps_set (i := 7) sc_deed_by.nd rfl (Or.inl rfl) pe_int)
      (Evl.pss_cut (ps_if (pt_chain op_le op_lt pe_int (pv 5) (pe_callB (kc_len K) (by rfl) T.m_len PySem.boot_len (pa_cons (pv 2) pa_nil)))
        (pss_one (ps_set (i := 7) sc_deed_by.nd rfl (Or.inl rfl) (pe_callB (kc_len K) (by rfl) T.m_len PySem.boot_len (pa_cons (pe_ix (kx_list K) (pe_ix (kx_list K) (pv 2) (pv 5) (fun _ _ => rfl)) pe_int (fun _ _ => rfl)) pa_nil))))
        pss_nil)
      (pss_cons (ps_set (i := 8) sc_deed_by.nd rfl (Or.inl rfl) (pe_cal c_place_by (hr.mono (by decide)) pass0 (pa_cons (pv 0) (pa_cons pe_int (pa_cons (pv 7) pa_nil)))))
      (pss_one (ps_ret (pe_tup (pa_cons (pv 4) (pa_cons (pv 5) (pa_cons (pv 8) (pa_cons (pe_cal c_number_by (hr.mono (by decide)) pass0 (pa_cons (pv 1) (pa_cons (pe_cal c_most (hr.mono (by decide)) pass0 (pa_cons (pv 4) (pa_cons (pv 5) (pa_cons (pv 8) (pa_cons (pv 2) pa_nil))))) pa_nil))) pa_nil)))))))))))))))))), ?_⟩
    have m12 : 0 ≤ c * 48271 % 10007 % 12 ∧ c * 48271 % 10007 % 12 < 12 := ⟨Int.emod_nonneg _ (by decide), Int.emod_lt_of_pos _ (by decide)⟩
    walk_at "go"
    intro a1 h1
    walk_at "go"
    intro a2 h2
    walk_at "go"
    have n12 : a1 ≠ a2 := ne_of_none (upd_same (H := H)) h2
    refine ⟨a1, a2, _, _, rfl, rfl, by rw [upd_ne n12]; exact upd_same, upd_same, Evl.sz_of (of_decide_eq_true rfl), fun a3 h3 => ?_⟩
    walk_at "go"
    obtain ⟨wd, hw, w8⟩ := w12_at (c * 48271 % 10007 % 12).toNat (by omega)
    refine ⟨a3, W12.map V.str, _, .str wd, rfl, rfl, SqL.of upd_same, ?_, ?_⟩
    · refine (congrArg (atI _) (Int.toNat_of_nonneg m12.1).symm).trans (atI_nat ?_)
      rw [List.getElem?_map, hw]
      rfl
    have s1 : Same H (upd H a1 _) := same_new (o := .lst [.str "deliver", .str "deliver", .str "deliver", .str "deliver", .str "back", .str "swap", .str "credit", .str "pay", .str "pay"]) h1
    have s3 := (s1.trans (same_new (o := .lst [.str "refund", .str "move", .str "order"]) h2)).trans (same_new (o := .lst ([.str "deliver", .str "deliver", .str "deliver", .str "deliver", .str "back", .str "swap", .str "credit", .str "pay", .str "pay"] ++ [.str "refund", .str "move", .str "order"])) h3)
    revert s3
    clear s1 h3 n12 h2 h1
    generalize (upd (upd (upd H a1 (.lst [.str "deliver", .str "deliver", .str "deliver", .str "deliver", .str "back", .str "swap", .str "credit", .str "pay", .str "pay"])) a2 (.lst [.str "refund", .str "move", .str "order"])) a3 (.lst ([.str "deliver", .str "deliver", .str "deliver", .str "deliver", .str "back", .str "swap", .str "credit", .str "pay", .str "pay"] ++ [.str "refund", .str "move", .str "order"]))) = H1
    intro s1
    have AC1 := AC.same s1
    have hf1 := hf.same s1
    walk_at "go"
    refine ⟨fun σ H' => σ = [some (.int c), some (.int m), some (.ref p), some (.ref a3), some (.str wd), none, none, none, none] ∧ Same H H', ?_, ?_⟩
    · walk_at "go"
      intro a4 h4
      walk_at "go"
      have s2 := s1.trans (same_new (o := .lst []) h4)
      have AC2 := AC.same s2
      refine ⟨_, _, AC2.dp, .lst (SqL.of upd_same) .nil, shaped_acc W, shaped_fl (n := 1) rfl, ?_⟩
      rw [eqv_nil]
      revert s2 AC2
      clear AC1 hf1 h4 s1
      generalize (upd H1 a4 (.lst [])) = H2
      intro s2 AC2
      have hf2 := hf.same s2
      have ord : M.length < 4 → ∀ (H' : Hp) (lp : Addr) (ls : List LineT), Same H2 H' → 1 ≤ ls.length → ls.length ≤ 20 → (∀ t ∈ ls, t.Ok) → Dp K (off fp H') (.ref lp) (.list (ls.map lineD)) → ∀ q', H' q' = none → Q (.ref q') (upd H' q' (.tup [.str "order", .ref lp])) := fun h4 H' lp ls s' n0 n1 ok dl q' hq => by
        refine q _ _ (.ord ls) (s2.trans (s'.trans (same_new hq))) True.intro ⟨n0, n1, ok⟩ (fun _ _ => h4) ?_
        exact dp_tup_new (hf2.same s') hq (.cons (.str _) (.cons dl .nil))
      walk_at "go"
      refine ite2 (fun h0 => ?_) (fun h0 => ?_)
      · have hM : M.length < 4 := by
          cases M with
          | nil => exact (by decide)
          | cons a b => cases h0
        walk_at "go"
        refine ⟨_, fp, rfl, hf2, fun H' lp ls s' n0 n1 ok _ dl => ?_⟩
        walk_at "go"
        intro q' hq
        exact ord hM H' lp ls s' n0 n1 ok dl q' hq
      walk_at "go"
      refine ite2 (fun h1 => ?_) (fun h1 => ?_)
      · walk_at "go"
        refine ⟨p, _, rfl, .inl (SqL.of AC2.top), ?_⟩
        walk_at "go"
        rw [List.length_map, AC2.len]
        by_cases hM : M.length < 4
        · rw [decide_eq_true (show (M.length : Int) < 4 by omega)]
          walk_at "go"
          refine ⟨_, fp, rfl, hf2, fun H' lp ls s' n0 n1 ok _ dl => ?_⟩
          walk_at "go"
          intro q' hq
          exact ord hM H' lp ls s' n0 n1 ok dl q' hq
        · rw [decide_eq_false (show ¬ (M.length : Int) < 4 by omega)]
          exact ⟨rfl, s2⟩
      · walk_at "go"
        exact s2
    rintro σ H2 ⟨rfl, s2⟩
    have AC2 := AC.same s2
    have hf2 := hf.same s2
    -- the other deeds
    have mny : ∀ (H' : Hp) (x : Str) (o n : Int) (q' : Addr), MoneyW x → Same H2 H' → H' q' = none → Q (.ref q') (upd H' q' (.tup [.str x, .int o, .int n])) := fun H' x o n q' hx s' hq =>
      q _ _ (.money x o n) (s2.trans (s'.trans (same_new hq))) hx True.intro (fun _ z => by cases z) (dp_tup_new (hf2.same s') hq (.cons (.str _) (.cons (.int _) (.cons (.int _) .nil))))
    have mv : ∀ (H' : Hp) (o n k : Int) (q' : Addr), Same H2 H' → H' q' = none → Q (.ref q') (upd H' q' (.tup [.str "move", .int o, .int n, .int k])) := fun H' o n k q' s' hq =>
      q _ _ (.move o n k) (s2.trans (s'.trans (same_new hq))) True.intro True.intro (fun _ z => by cases z) (dp_tup_new (hf2.same s') hq (.cons (.str _) (.cons (.int _) (.cons (.int _) (.cons (.int _) .nil)))))
    have gds : ∀ (H' : Hp) (x : Str) (o n k : Int) (q' : Addr), GoodsW x → Same H2 H' → H' q' = none → Q (.ref q') (upd H' q' (.tup [.str x, .int o, .int n, .int k])) := fun H' x o n k q' hx s' hq =>
      q _ _ (.goods x o n k) (s2.trans (s'.trans (same_new hq))) hx True.intro (fun _ z => by cases z) (dp_tup_new (hf2.same s') hq (.cons (.str _) (.cons (.int _) (.cons (.int _) (.cons (.int _) .nil)))))
    walk_at "go"
    refine ⟨fun σ H' => ∃ x : Str, σ = [some (.int c), some (.int m), some (.ref p), some (.ref a3), some (.str x), none, none, none, none] ∧ H' = H2 ∧ (GoodsW x ∨ MoneyW x ∨ x = "move"), ?_, ?_⟩
    · walk_at "go"
      refine ite2 (fun h1 => ?_) (fun h1 => ?_)
      · exact ⟨_, rfl, rfl, .inr (.inr rfl)⟩
      · refine ⟨_, rfl, rfl, ?_⟩
        rcases w8 with h | h | h | h
        · exact .inl h
        · exact .inr (.inl h)
        · exact .inr (.inr h)
        · exact absurd h (str_not h1)
    rintro σ H' ⟨x, rfl, rfl, hx⟩
    walk_at "go"
    refine ⟨p, _, rfl, .inl (SqL.of AC2.top), ?_⟩
    refine ⟨_, _, _, rfl, by decide, fun at_ => ?_⟩
    walk_at "go"
    refine ⟨fun σ H1 => σ = [some (.int c), some (.int m), some (.ref p), some (.ref a3), some (.str x), some (.int at_), none, none, none] ∧ H1 = H' ∧ (GoodsW x ∨ x = "move"), ?_, ?_⟩
    · walk_at "go"
      refine ite2 (fun h1 => ?_) (fun h1 => ?_)
      · have mx : MoneyW x := .inl (str_yes h1)
        walk_at "go"
        refine ⟨fp, own, p, os, M, x, at_, 0, rfl, AC2, W, fun H3 s3 => ?_⟩
        walk_at "go"
        intro n
        walk_at "go"
        intro q' hq
        exact mny H3 x at_ n q' mx s3 hq
      walk_at "go"
      refine ite2 (fun h2 => ?_) (fun h2 => ?_)
      · have mx : MoneyW x := .inr (str_yes h2)
        walk_at "go"
        refine ⟨fp, own, p, os, M, x, at_, 0, rfl, AC2, W, fun H3 s3 => ?_⟩
        walk_at "go"
        intro n
        walk_at "go"
        intro q' hq
        exact mny H3 x at_ n q' mx s3 hq
      refine ⟨rfl, rfl, ?_⟩
      rcases hx with h | h | h
      · exact .inl h
      · exact absurd h fun z => z.elim (str_not h1) (str_not h2)
      · exact .inr h
    rintro σ H1 ⟨rfl, rfl, hx⟩
    walk_at "go"
    refine ite2 (fun h1 => ?_) (fun h1 => ?_)
    · have ex := str_yes h1
      subst ex
      walk_at "go"
      refine ⟨p, _, rfl, .inl (SqL.of AC2.top), ?_⟩
      refine ⟨_, _, _, rfl, by decide, fun ot => ?_⟩
      walk_at "go"
      refine ⟨fp, own, p, os, M, _, at_, 0, rfl, AC2, W, fun H3 s3 => ?_⟩
      walk_at "go"
      intro n
      walk_at "go"
      intro q' hq
      exact mv H3 at_ ot n q' s3 hq
    have gx : GoodsW x := hx.elim id fun z => absurd z (str_not h1)
    walk_at "go"
    refine ⟨fun σ H2 => ∃ sz : Int, σ = [some (.int c), some (.int m), some (.ref p), some (.ref a3), some (.str x), some (.int at_), none, some (.int sz), none] ∧ H2 = H1, ?_, ?_⟩
    · walk_at "go"
      refine ite2 (fun h2 => ?_) (fun h2 => ?_)
      · have h2 := of_decide_eq_true h2
        walk_at "go"
        refine ⟨p, _, rfl, .inl (SqL.of AC2.top), ?_⟩
        walk_at "go"
        rw [List.length_map, AC2.len]
        by_cases h3 : at_ < (M.length : Int)
        · rw [decide_eq_true h3]
          obtain ⟨o, ho, hat, hm, O⟩ := AC2.at_ h2 h3
          walk_at "go"
          refine ⟨p, _, _, _, rfl, rfl, SqL.of AC2.top, hat, ?_⟩
          walk_at "go"
          refine ⟨o.a, _, _, _, rfl, rfl, SqL.of O.hd, atI_nat (j := 0) rfl, ?_⟩
          walk_at "go"
          refine ⟨o.ls, _, rfl, .inl (SqL.of O.hl), ?_⟩
          exact ⟨_, rfl, rfl⟩
        · rw [decide_eq_false h3]
          exact ⟨_, rfl, rfl⟩
      · walk_at "go"
        rfl
    rintro σ H2 ⟨sz, rfl, rfl⟩
    walk_at "go"
    refine ⟨_, _, _, rfl, by decide, fun pl => ?_⟩
    walk_at "go"
    refine ⟨fp, own, p, os, M, x, at_, pl, rfl, AC2, W, fun H3 s3 => ?_⟩
    walk_at "go"
    intro n
    walk_at "go"
    intro q' hq
    exact gds H3 x at_ pl n q' gx s3 hq
end
section
variable {P : Program} {w : World} {K : PySem.W.Frag} {mg : Str → Option Value} {base : Heap}
abbrev N_refusal : List Str := ["_law_deed", "_law_orders", "_law_place", "_law_number"]
abbrev P_refusal : List Str := ["_law_deed", "_law_orders"]
theorem sc_refusal : FnScope N_refusal P_refusal (defScope s_refusal) := ⟨rfl, rfl, rfl, by decide +kernel, rfl, by decide +kernel, by decide +kernel⟩
def sp_refusal (K : PySem.W.Frag) : Sp := fun vs H Q _ => ∃ (fp own : Addr → Prop) (p : Addr) (os : List OA) (M : List Od) (v : V) (d : Deed), vs = [v, .ref p] ∧ Acc K fp own H p os M ∧ WF M ∧ Dp K H v (deedD d) ∧ d.Shape ∧
  ∀ H', Same H H' → Q (.str (refusalM M d)) H'
theorem c_refusal (T : Blt mg) (c_most : Cal P w K mg base CX0 3 "_law_most" P_most (sp_most K)) (D : DefAt K mg "_law_refusal" s_refusal P_refusal) : Cal P w K mg base CX0 4 "_law_refusal" P_refusal (sp_refusal K) := by
  refine cal_of D sc_refusal (fun vs H Q E h => ?_) (fun f cdv A outer s H vs Q E hr h => ?_)
  · obtain ⟨fp, own, p, os, M, v, d, rfl, _⟩ := h
    rfl
  · obtain ⟨fp, own, p, os, M, v, d, rfl, AC, W, hd, sh, q⟩ := h
    refine ⟨_, (pss_cons (ps_if (pt_cmpR op_eq (pe_ix (kx_tup K) (pv 0) pe_int (fun _ _ => rfl)) pe_str (nomark _))
        (pss_one (ps_ret pe_str))
        pss_nil)
      (pss_cons (ps_if (PW.pt (pw_or (pt_not (pt_chain op_le op_lt pe_int (pe_ix (kx_tup K) (pv 0) pe_int (fun _ _ => rfl)) (pe_callB (kc_len K) (by rfl) T.m_len PySem.boot_len (pa_cons (pv 1) pa_nil)))) (pw_or1 (PW.pt (pw_and (pt_cmpR op_eq (pe_ix (kx_tup K) (pv 0) pe_int (fun _ _ => rfl)) pe_str (nomark _)) (pw_and1 (pt_not (pt_chain op_le op_lt pe_int (pe_ix (kx_tup K) (pv 0) pe_int (fun _ _ => rfl)) (pe_callB (kc_len K) (by rfl) T.m_len PySem.boot_len (pa_cons (pv 1) pa_nil))))))))))
        (pss_one (ps_ret pe_str))
        pss_nil)
      (pss_cons (ps_if (PW.pt (pw_and (pt_cmpR op_eq (pe_ix (kx_tup K) (pv 0) pe_int (fun _ _ => rfl)) pe_str (nomark _)) (pw_and1 (pt_cmpR op_eq (pe_ix (kx_tup K) (pv 0) pe_int (fun _ _ => rfl)) (pe_ix (kx_tup K) (pv 0) pe_int (fun _ _ => rfl)) (nomark _)))))
        (pss_one (ps_ret pe_str))
        pss_nil)
      (pss_cons (ps_set (i := 2) sc_refusal.nd rfl (Or.inl rfl) pe_int)
      (Evl.pss_cut (ps_if (PW.pt (pw_and (pt_cmpR op_eq (pe_callB (kc_len K) (by rfl) T.m_len PySem.boot_len (pa_cons (pv 0) pa_nil)) pe_int (nomark _)) (pw_and1 (pt_cmpR op_ne (pe_ix (kx_tup K) (pv 0) pe_int (fun _ _ => rfl)) pe_str (nomark _)))))
        (pss_one (ps_set (i := 2) sc_refusal.nd rfl (Or.inl rfl) (pe_ix (kx_tup K) (pv 0) pe_int (fun _ _ => rfl))))
        pss_nil)
      (pss_cons (ps_if (pt_not (pt_chain op_le op_lt pe_int (pv 2) (pe_callB (kc_len K) (by rfl) T.m_len PySem.boot_len (pa_cons (pe_ix (kx_list K) (pe_ix (kx_list K) (pv 1) (pe_ix (kx_tup K) (pv 0) pe_int (fun _ _ => rfl)) (fun _ _ => rfl)) pe_int (fun _ _ => rfl)) pa_nil))))
        (pss_one (ps_ret pe_str))
        pss_nil)
      (pss_cons (ps_set (i := 3) sc_refusal.nd rfl (Or.inl rfl) (pe_ix (kx_tup K) (pv 0) (pe_op op_sub (pe_callB (kc_len K) (by rfl) T.m_len PySem.boot_len (pa_cons (pv 0) pa_nil)) pe_int) (fun _ _ => rfl)))
      (pss_cons (ps_if (pt_cmpR op_lt (pv 3) pe_int (nomark _))
        (pss_one (ps_ret pe_str))
        pss_nil)
      (pss_cons (ps_if (PW.pt (pw_and (pt_cmpR op_ne (pe_ix (kx_tup K) (pv 0) pe_int (fun _ _ => rfl)) pe_str (nomark _)) (pw_and1 (pt_cmpR op_gt (pv 3) (pe_cal c_most (hr.mono (by decide)) pass0 (pa_cons (pe_ix (kx_tup K) (pv 0) pe_int (fun _ _ => rfl)) (pa_cons (pe_ix (kx_tup K) (pv 0) pe_int (fun _ _ => rfl)) (pa_cons (pv 2) (pa_cons (pv 1) pa_nil))))) (nomark _)))))
        (pss_one (ps_ret pe_str))
        pss_nil)
      (pss_one (ps_ret pe_str))))))))))), ?_⟩
    have out : ∀ i : Str, refusalM M d = i → ∀ H', Same H H' → Q (.str i) H' := fun i e H' s => e ▸ q H' s
    have same := Same.refl H
    cases d with
    | ord ls =>
      obtain ⟨b, x, rfl, hb, _⟩ := deed_ord hd
      walk_at "go"
      refine ⟨b, _, _, _, rfl, rfl, hb, atI_nat (j := 0) rfl, ?_⟩
      walk_at "go"
      exact out _ rfl H same
    | goods x o l n =>
      obtain ⟨b, rfl, hb⟩ := deed_goods hd
      obtain ⟨n1, n2, n3, n4⟩ := goods_ne sh
      have e1 := dec_str_no n1
      have e2 := dec_str_no n2
      have e3 := dec_str_no n3
      have hT := SqL.of (K := K) AC.top
      have hl : (os.map fun o => V.ref o.a).length = M.length := by rw [List.length_map, AC.len]
      by_cases h0 : 0 ≤ o
      rotate_left
      · have h0' := decide_eq_false h0
        walk_at "gox"
        refine out "NoOrder" ?_ H same
        exact if_pos (inR_no fun z => h0 z.1)
      have h0' := decide_eq_true h0
      by_cases h1 : o < (M.length : Int)
      rotate_left
      · have h1' : decide (o < ((os.map fun o => V.ref o.a).length : Int)) = false := by rw [hl]; exact decide_eq_false h1
        walk_at "gox"
        refine out "NoOrder" ?_ H same
        exact if_pos (inR_no fun z => h1 z.2)
      have h1' : decide (o < ((os.map fun o => V.ref o.a).length : Int)) = true := by rw [hl]; exact decide_eq_true h1
      obtain ⟨oa, ho, hat, hm, O⟩ := AC.at_ h0 h1
      have eR : ¬ inR o M.length = false := by rw [inR_iff.mpr ⟨h0, h1⟩]; exact Bool.noConfusion
      walk_at "gox"
      refine ⟨fun σ H' => σ = [some (.ref b), some (.ref p), some (.int l), none] ∧ H' = H, ?_, ?_⟩
      · walk_at "gox"
        rfl
      rintro σ H' ⟨rfl, rfl⟩
      have hA := SqL.of (K := K) O.hd
      have hL := SqL.of (K := K) O.hl
      have hl2 : (oa.lns.map V.ref).length = (ordAt M o).lines.length := by rw [List.length_map, O.len]
      by_cases h2 : 0 ≤ l
      rotate_left
      · have h2' := decide_eq_false h2
        walk_at "gox"
        refine out "NoLine" ?_ H' same
        rw [refusal_goods, if_neg eR, if_pos (inR_no fun z => h2 z.1)]
      have h2' := decide_eq_true h2
      by_cases h3 : l < ((ordAt M o).lines.length : Int)
      rotate_left
      · have h3' : decide (l < ((oa.lns.map V.ref).length : Int)) = false := by rw [hl2]; exact decide_eq_false h3
        walk_at "gox"
        refine ⟨p, _, _, _, rfl, rfl, hT, hat, ?_⟩
        walk_at "gox"
        refine out "NoLine" ?_ H' same
        rw [refusal_goods, if_neg eR, if_pos (inR_no fun z => h3 z.2)]
      have h3' : decide (l < ((oa.lns.map V.ref).length : Int)) = true := by rw [hl2]; exact decide_eq_true h3
      have eL : ¬ inR l (ordAt M o).lines.length = false := by rw [inR_iff.mpr ⟨h2, h3⟩]; exact Bool.noConfusion
      walk_at "gox"
      refine ⟨p, _, _, _, rfl, rfl, hT, hat, ?_⟩
      walk_at "gox"
      by_cases h4 : n < 1
      · have h4' := decide_eq_true h4
        walk_at "gox"
        refine out "NoNumber" ?_ H' same
        rw [refusal_goods, if_neg eR, if_neg eL, if_pos h4]
      have h4' := decide_eq_false h4
      walk_at "gox"
      refine ⟨fp, own, p, os, M, x, o, l, rfl, AC, W, fun H1 s1 => ?_⟩
      walk_at "gox"
      by_cases h5 : mostM x o l M < n
      · have h5' := decide_eq_true h5
        walk_at "gox"
        refine out "TooMuch" ?_ H1 s1
        rw [refusal_goods, if_neg eR, if_neg eL, if_neg h4, if_pos h5]
      · have h5' := decide_eq_false h5
        walk_at "gox"
        refine out "" ?_ H1 s1
        rw [refusal_goods, if_neg eR, if_neg eL, if_neg h4, if_neg h5]
    | money x o n =>
      obtain ⟨b, rfl, hb⟩ := deed_money hd
      obtain ⟨n1, n2, n3, n4⟩ := money_ne sh
      have e1 := dec_str_no n1
      have e2 := dec_str_no n2
      have hT := SqL.of (K := K) AC.top
      have hl : (os.map fun o => V.ref o.a).length = M.length := by rw [List.length_map, AC.len]
      by_cases h0 : 0 ≤ o
      rotate_left
      · have h0' := decide_eq_false h0
        walk_at "gox"
        refine out "NoOrder" ?_ H same
        exact if_pos (inR_no fun z => h0 z.1)
      have h0' := decide_eq_true h0
      by_cases h1 : o < (M.length : Int)
      rotate_left
      · have h1' : decide (o < ((os.map fun o => V.ref o.a).length : Int)) = false := by rw [hl]; exact decide_eq_false h1
        walk_at "gox"
        refine out "NoOrder" ?_ H same
        exact if_pos (inR_no fun z => h1 z.2)
      have h1' : decide (o < ((os.map fun o => V.ref o.a).length : Int)) = true := by rw [hl]; exact decide_eq_true h1
      obtain ⟨oa, ho, hat, hm, O⟩ := AC.at_ h0 h1
      have ok := W.at_ h0 h1
      have eR : ¬ inR o M.length = false := by rw [inR_iff.mpr ⟨h0, h1⟩]; exact Bool.noConfusion
      walk_at "gox"
      refine ⟨fun σ H' => σ = [some (.ref b), some (.ref p), some (.int 0), none] ∧ H' = H, ?_, ?_⟩
      · walk_at "gox"
        rfl
      rintro σ H' ⟨rfl, rfl⟩
      have hA := SqL.of (K := K) O.hd
      have hL := SqL.of (K := K) O.hl
      have hl2 : (oa.lns.map V.ref).length = (ordAt M o).lines.length := by rw [List.length_map, O.len]
      have h3' : decide ((0 : Int) < ((oa.lns.map V.ref).length : Int)) = true := by rw [hl2]; exact decide_eq_true (by have := ok.ne; omega)
      walk_at "gox"
      refine ⟨p, _, _, _, rfl, rfl, hT, hat, ?_⟩
      walk_at "gox"
      by_cases h4 : n < 1
      · have h4' := decide_eq_true h4
        walk_at "gox"
        refine out "NoNumber" ?_ H' same
        rw [refusal_money, if_neg eR, if_pos h4]
      have h4' := decide_eq_false h4
      by_cases h6 : x = "pay"
      · have h6' : decide (V.str x = V.str "pay") = true := decide_eq_true (by rw [h6])
        walk_at "gox"
        refine out "" ?_ H' same
        rw [refusal_money, if_neg eR, if_neg h4, if_neg fun z => z.1 h6]
      have h6' := dec_str_no h6
      walk_at "gox"
      refine ⟨fp, own, p, os, M, x, o, 0, rfl, AC, W, fun H1 s1 => ?_⟩
      walk_at "gox"
      by_cases h5 : mostM x o 0 M < n
      · have h5' := decide_eq_true h5
        walk_at "gox"
        refine out "TooMuch" ?_ H1 s1
        rw [refusal_money, if_neg eR, if_neg h4, if_pos ⟨h6, h5⟩]
      · have h5' := decide_eq_false h5
        walk_at "gox"
        refine out "" ?_ H1 s1
        rw [refusal_money, if_neg eR, if_neg h4, if_neg fun z => h5 z.2]
    | move o l n =>
      obtain ⟨b, rfl, hb⟩ := deed_move hd
      have hT := SqL.of (K := K) AC.top
      have hl : (os.map fun o => V.ref o.a).length = M.length := by rw [List.length_map, AC.len]
      by_cases h0 : 0 ≤ o
      rotate_left
      · have h0' := decide_eq_false h0
        walk_at "gox"
        refine out "NoOrder" ?_ H same
        exact if_pos (.inl (inR_no fun z => h0 z.1))
      have h0' := decide_eq_true h0
      by_cases h1 : o < (M.length : Int)
      rotate_left
      · have h1' : decide (o < ((os.map fun o => V.ref o.a).length : Int)) = false := by rw [hl]; exact decide_eq_false h1
        walk_at "gox"
        refine out "NoOrder" ?_ H same
        exact if_pos (.inl (inR_no fun z => h1 z.2))
      have h1' : decide (o < ((os.map fun o => V.ref o.a).length : Int)) = true := by rw [hl]; exact decide_eq_true h1
      by_cases g0 : 0 ≤ l
      rotate_left
      · have g0' := decide_eq_false g0
        walk_at "gox"
        refine out "NoOrder" ?_ H same
        exact if_pos (.inr (inR_no fun z => g0 z.1))
      have g0' := decide_eq_true g0
      by_cases g1 : l < (M.length : Int)
      rotate_left
      · have g1' : decide (l < ((os.map fun o => V.ref o.a).length : Int)) = false := by rw [hl]; exact decide_eq_false g1
        walk_at "gox"
        refine out "NoOrder" ?_ H same
        exact if_pos (.inr (inR_no fun z => g1 z.2))
      have g1' : decide (l < ((os.map fun o => V.ref o.a).length : Int)) = true := by rw [hl]; exact decide_eq_true g1
      have eR : ¬ (inR o M.length = false ∨ inR l M.length = false) := by rw [inR_iff.mpr ⟨h0, h1⟩, inR_iff.mpr ⟨g0, g1⟩]; exact fun z => z.elim Bool.noConfusion Bool.noConfusion
      by_cases g2 : o = l
      · have g2' : decide (V.int o = V.int l) = true := decide_eq_true (by rw [g2])
        walk_at "gox"
        refine out "SameOrder" ?_ H same
        rw [refusal_move, if_neg eR, if_pos g2]
      have g2' : decide (V.int o = V.int l) = false := decide_eq_false fun z => g2 (V.int.inj z)
      obtain ⟨oa, ho, hat, hm, O⟩ := AC.at_ h0 h1
      have ok := W.at_ h0 h1
      walk_at "gox"
      refine ⟨fun σ H' => σ = [some (.ref b), some (.ref p), some (.int 0), none] ∧ H' = H, ?_, ?_⟩
      · walk_at "gox"
        rfl
      rintro σ H' ⟨rfl, rfl⟩
      have hA := SqL.of (K := K) O.hd
      have hL := SqL.of (K := K) O.hl
      have hl2 : (oa.lns.map V.ref).length = (ordAt M o).lines.length := by rw [List.length_map, O.len]
      have h3' : decide ((0 : Int) < ((oa.lns.map V.ref).length : Int)) = true := by rw [hl2]; exact decide_eq_true (by have := ok.ne; omega)
      walk_at "gox"
      refine ⟨p, _, _, _, rfl, rfl, hT, hat, ?_⟩
      walk_at "gox"
      by_cases h4 : n < 1
      · have h4' := decide_eq_true h4
        walk_at "gox"
        refine out "NoNumber" ?_ H' same
        rw [refusal_move, if_neg eR, if_neg g2, if_pos h4]
      have h4' := decide_eq_false h4
      walk_at "gox"
      refine ⟨fp, own, p, os, M, "move", o, 0, rfl, AC, W, fun H1 s1 => ?_⟩
      walk_at "gox"
      by_cases h5 : mostM "move" o 0 M < n
      · have h5' := decide_eq_true h5
        walk_at "gox"
        refine out "TooMuch" ?_ H1 s1
        rw [refusal_move, if_neg eR, if_neg g2, if_neg h4, if_pos h5]
      · have h5' := decide_eq_false h5
        walk_at "gox"
        refine out "" ?_ H1 s1
        rw [refusal_move, if_neg eR, if_neg g2, if_neg h4, if_neg h5]
end
section
variable {P : Program} {w : World} {K : PySem.W.Frag} {mg : Str → Option Value} {base : Heap}
abbrev N_turned : List Str := ["_law_deed", "_law_orders", "_law_number", "_law_sign", "_law_line"]
abbrev P_turned : List Str := ["_law_deed", "_law_orders"]
theorem sc_turned : FnScope N_turned P_turned (defScope s_turned) := ⟨rfl, rfl, rfl, by decide +kernel, rfl, by decide +kernel, by decide +kernel⟩
def sp_turned (K : PySem.W.Frag) : Sp := fun vs H Q _ => ∃ (fp own : Addr → Prop) (p : Addr) (os : List OA) (M : List Od) (v : V) (d : Deed), vs = [v, .ref p] ∧ Acc K fp own H p os M ∧ WF M ∧ Dp K (off fp H) v (deedD d) ∧ d.Shape ∧ (∀ ls, d ≠ .ord ls) ∧ refusalM M d = "" ∧
  ∀ H', Keep own H H' → Acc K fp own H' p os (turnM M d) → Q v H'
theorem c_turned (T : Blt mg) (c_line_worth : Cal P w K mg base CX0 1 "_law_line_worth" P_line_worth (sp_line_worth K)) (D : DefAt K mg "_law_turned" s_turned P_turned) : Cal P w K mg base CX0 2 "_law_turned" P_turned (sp_turned K) := by
  refine cal_of D sc_turned (fun vs H Q E h => ?_) (fun f cdv A outer s H vs Q E hr h => ?_)
  · obtain ⟨fp, own, p, os, M, v, d, rfl, _⟩ := h
    rfl
  · obtain ⟨fp, own, p, os, M, v, d, rfl, AC, W, hd, sh, no, lg, q⟩ := h
    refine ⟨_, (pss_cons (ps_set (i := 2) sc_turned.nd rfl (Or.inl rfl) (pe_ix (kx_tup K) (pv 0) (pe_op op_sub (pe_callB (kc_len K) (by rfl) T.m_len PySem.boot_len (pa_cons (pv 0) pa_nil)) pe_int) (fun _ _ => rfl)))
      (pss_cons (ps_if (PW.pt (pw_or (pt_cmpR op_eq (pe_ix (kx_tup K) (pv 0) pe_int (fun _ _ => rfl)) pe_str (nomark _)) (pw_or (pt_cmpR op_eq (pe_ix (kx_tup K) (pv 0) pe_int (fun _ _ => rfl)) pe_str (nomark _)) (pw_or1 (pt_cmpR op_eq (pe_ix (kx_tup K) (pv 0) pe_int (fun _ _ => rfl)) pe_str (nomark _))))))
        (pss_cons (ps_set (i := 3) sc_turned.nd rfl (Or.inl rfl) (pe_op op_sub pe_int (pe_op op_mul pe_int (pe_callTy call_int1 (by rfl) T.m_int PyProof.Rows.boot_int (pa_cons (pe_cmpR op_ne (pe_ix (kx_tup K) (pv 0) pe_int (fun _ _ => rfl)) pe_str (nomark _)) pa_nil)))))
        (pss_cons (ps_asg (pe_op op_add (pe_ix (kx_list K) (pe_ix (kx_list K) (pv 1) (pe_ix (kx_tup K) (pv 0) pe_int (fun _ _ => rfl)) (fun _ _ => rfl)) pe_int (fun _ _ => rfl)) (pe_op op_mul (pv 3) (pv 2))) (pg_sub (pe_ix (kx_list K) (pv 1) (pe_ix (kx_tup K) (pv 0) pe_int (fun _ _ => rfl)) (fun _ _ => rfl)) pe_int set_list))
        (Evl.pss_cut (ps_if (pt_cmpR op_eq (pe_ix (kx_tup K) (pv 0) pe_int (fun _ _ => rfl)) pe_str (nomark _))
          (pss_one (ps_asg (pe_op op_add (pe_ix (kx_list K) (pe_ix (kx_list K) (pv 1) (pe_ix (kx_tup K) (pv 0) pe_int (fun _ _ => rfl)) (fun _ _ => rfl)) pe_int (fun _ _ => rfl)) (pv 2)) (pg_sub (pe_ix (kx_list K) (pv 1) (pe_ix (kx_tup K) (pv 0) pe_int (fun _ _ => rfl)) (fun _ _ => rfl)) pe_int set_list)))
          pss_nil)
        (pss_one (ps_ret (pv 0))))))
        pss_nil)
      (pss_cons (ps_set (i := 4) sc_turned.nd rfl (Or.inl rfl) (pe_ix (kx_list K) (pe_ix (kx_list K) (pe_ix (kx_list K) (pv 1) (pe_ix (kx_tup K) (pv 0) pe_int (fun _ _ => rfl)) (fun _ _ => rfl)) pe_int (fun _ _ => rfl)) (pe_ix (kx_tup K) (pv 0) pe_int (fun _ _ => rfl)) (fun _ _ => rfl)))
      (Evl.pss_cut (ps_if (pt_cmpR op_eq (pe_ix (kx_tup K) (pv 0) pe_int (fun _ _ => rfl)) pe_str (nomark _))
        (pss_one (ps_asg (pe_op op_add (pe_ix (kx_list K) (pv 4) pe_int (fun _ _ => rfl)) (pv 2)) (pg_sub (pv 4) pe_int set_list)))
        (pss_one (ps_if (pt_cmpR op_eq (pe_ix (kx_tup K) (pv 0) pe_int (fun _ _ => rfl)) pe_str (nomark _))
          (pss_one (ps_asg (pe_op op_add (pe_ix (kx_list K) (pv 4) pe_int (fun _ _ => rfl)) (pv 2)) (pg_sub (pv 4) pe_int set_list)))
          (pss_cons (ps_asg (pe_op op_add (pe_ix (kx_list K) (pv 4) pe_int (fun _ _ => rfl)) (pv 2)) (pg_sub (pv 4) pe_int set_list))
          (pss_cons (ps_asg (pe_op op_add (pe_ix (kx_list K) (pv 4) pe_int (fun _ _ => rfl)) (pe_op op_mul (pv 2) (pe_callTy call_int1 (by rfl) T.m_int PyProof.Rows.boot_int (pa_cons (pe_cmpR op_eq (pe_ix (kx_tup K) (pv 0) pe_int (fun _ _ => rfl)) pe_str (nomark _)) pa_nil)))) (pg_sub (pv 4) pe_int set_list))
          (pss_one (ps_asg (pe_callB (call_min2 rfl) (by rfl) T.m_min (by decide +kernel) (pa_cons (pe_ix (kx_list K) (pv 4) pe_int (fun _ _ => rfl)) (pa_cons (pe_cal c_line_worth (hr.mono (by decide)) pass0 (pa_cons (pv 4) pa_nil)) pa_nil))) (pg_sub (pv 4) pe_int set_list))))))))
      (pss_one (ps_ret (pv 0))))))), ?_⟩
    have hT := SqL.of (K := K) AC.top
    cases d with
    | ord ls => exact absurd rfl (no ls)
    | money x o n =>
      obtain ⟨b, rfl, hb0⟩ := deed_money hd
      have hb := same_t off_same hb0
      obtain ⟨⟨h0, h1⟩, h2, _⟩ := legal_money lg
      obtain ⟨oa, ho, hat, hm, O⟩ := AC.at_ h0 h1
      have hA := SqL.of (K := K) O.hd
      obtain ⟨n1, n2, n3, n4⟩ := money_ne sh
      have e2 := dec_str_no n2
      have hA0 := O.hd
      have AC2 := AC.setPaid (n := (ordAt M o).paid + (if x = "pay" then n else -n)) ho hm
      have K2 : Keep own H _ := (Keep.refl H).put (zs := [.ref oa.ls, .int ((ordAt M o).paid + (if x = "pay" then n else -n)), .ref oa.rs]) (AC.ow.2 oa (List.mem_of_getElem? ho)).1 ⟨_, O.hd⟩
      have mid : Keep own H (upd H oa.a (.lst ([V.ref oa.ls, .int (ordAt M o).paid, .ref oa.rs].set 1 (.int ((ordAt M o).paid + (1 - 2 * (if (!decide (V.str x = V.str "pay")) = true then (1 : Int) else 0)) * n))))) ∧
          Acc K fp own (upd H oa.a (.lst ([V.ref oa.ls, .int (ordAt M o).paid, .ref oa.rs].set 1 (.int ((ordAt M o).paid + (1 - 2 * (if (!decide (V.str x = V.str "pay")) = true then (1 : Int) else 0)) * n))))) p os (turnM M (.money x o n)) := by
        rw [sign_eq]
        exact ⟨K2, AC2⟩
      revert mid q
      generalize turnM M (.money x o n) = TM
      intro q mid
      rcases sh with rfl | rfl
      all_goals
        walk_at "goz"
        refine ⟨fun σ H' => (∃ sv, σ = [some (.ref b), some (.ref p), some (.int n), sv, none]) ∧ Keep own H H' ∧ Acc K fp own H' p os TM, ?_, ?_⟩
        rotate_left
        · rintro σ H' ⟨⟨sv, rfl⟩, k2, a2⟩
          walk_at "goz"
          exact q H' k2 a2
        have hb2 := same_t ((mid.1.off AC.sub).trans off_same) hb0
        walk_at "goz"
        exact mid
    | move o l n =>
      obtain ⟨b, rfl, hb0⟩ := deed_move hd
      have hb := same_t off_same hb0
      obtain ⟨⟨h0, h1⟩, ⟨g0, g1⟩, ne, h2, _⟩ := legal_move lg
      obtain ⟨oa, ho, hat, hm, O⟩ := AC.at_ h0 h1
      have hA := SqL.of (K := K) O.hd
      have hA0 := O.hd
      have oo := (AC.ow.2 oa (List.mem_of_getElem? ho)).1
      have AC2 := AC.setPaid (n := (ordAt M o).paid + -n) ho hm
      have K2 : Keep own H _ := (Keep.refl H).put (zs := [.ref oa.ls, .int ((ordAt M o).paid + -n), .ref oa.rs]) oo ⟨_, O.hd⟩
      have g1' : l < ((M.set o.toNat { ordAt M o with paid := (ordAt M o).paid + -n }).length : Int) := by rw [List.length_set]; exact g1
      obtain ⟨ob, ho2, hat2, hm2, O2⟩ := AC2.at_ g0 g1'
      have e3 : ordAt (M.set o.toNat { ordAt M o with paid := (ordAt M o).paid + -n }) l = ordAt M l := by rw [ordAt_set h0 h1 g0, if_neg ne]
      rw [e3] at hm2 O2
      have hB := SqL.of (K := K) O2.hd
      have hB0 := O2.hd
      have oo2 := (AC.ow.2 ob (List.mem_of_getElem? ho2)).1
      have AC3 := AC2.setPaid (n := (ordAt M l).paid + n) ho2 hm2
      have K3 : Keep own H _ := K2.put (zs := [.ref ob.ls, .int ((ordAt M l).paid + n), .ref ob.rs]) oo2 ⟨_, O2.hd⟩
      have sg : (1 - 2 * (if (!decide (V.str "move" = V.str "pay")) = true then (1 : Int) else 0)) * n = -n := by rw [sign_eq, if_neg (by decide +kernel)]
      have mid : Keep own H _ ∧ Acc K fp own _ p os (turnM M (.move o l n)) := And.intro K3 AC3
      revert mid q
      generalize turnM M (.move o l n) = TM
      intro q mid
      have hT2 := SqL.of (K := K) AC2.top
      rw [← sg] at mid hB0 hB hT2
      walk_at "goz"
      refine ⟨fun σ H' => (∃ sv, σ = [some (.ref b), some (.ref p), some (.int n), sv, none]) ∧ Keep own H H' ∧ Acc K fp own H' p os TM, ?_, ?_⟩
      rotate_left
      · rintro σ H' ⟨⟨sv, rfl⟩, k2, a2⟩
        walk_at "goz"
        exact q H' k2 a2
      have hb2 := same_t ((K2.off AC.sub).trans off_same) hb0
      rw [← sg] at hb2
      walk_at "goz"
      exact mid
    | goods x o l n =>
      obtain ⟨b, rfl, hb0⟩ := deed_goods hd
      have hb := same_t off_same hb0
      obtain ⟨⟨h0, h1⟩, ⟨g0, g1⟩, h2, _⟩ := legal_goods lg
      obtain ⟨oa, ho, hat, hm, O⟩ := AC.at_ h0 h1
      have ok := W.at_ h0 h1
      obtain ⟨y, hy, hyt, hl, hY⟩ := O.at_ g0 g1
      have lok := ok.at_ g0 g1
      have hA := SqL.of (K := K) O.hd
      have hL := SqL.of (K := K) O.hl
      have hYl := SqL.of (K := K) hY
      have oy : own y := (AC.ow.2 oa (List.mem_of_getElem? ho)).2.2.2 y (List.mem_of_getElem? hy)
      obtain ⟨n1, n2, n3, n4⟩ := goods_ne sh
      have e1 := dec_str_no n2
      have e2 := dec_str_no n3
      have e3 := dec_str_no n4
      have mid : ∀ L : Ln, L = turnL x n (lnAt (ordAt M o) l) → Keep own H (upd H y (.lst (LnV L))) ∧ Acc K fp own (upd H y (.lst (LnV L))) p os (turnM M (.goods x o l n)) := by
        rintro L rfl
        exact ⟨(Keep.refl H).put oy ⟨_, hY⟩, AC.setLine ho hm hy⟩
      revert mid q
      generalize turnM M (.goods x o l n) = TM
      intro q mid
      walk_at "goz"
      refine ⟨fun σ H' => (∃ sv, σ = [some (.ref b), some (.ref p), some (.int n), none, sv]) ∧ Keep own H H' ∧ Acc K fp own H' p os TM, ?_, ?_⟩
      rotate_left
      · rintro σ H' ⟨⟨sv, rfl⟩, k2, a2⟩
        walk_at "goz"
        exact q H' k2 a2
      generalize lnAt (ordAt M o) l = L at *
      obtain ⟨it, pc, ce, pa, se, hm_, ag, cr⟩ := L
      have st1 : ∀ xs : List V, SqT K (upd H y (.lst xs)) b [.str x, .int o, .int l, .int n] := fun xs => same_t ((((Keep.refl H).put (zs := xs) oy ⟨_, hY⟩).off AC.sub).trans off_same) hb0
      rcases sh with rfl | rfl | rfl | rfl
      · walk_at "goz"
        exact mid _ rfl
      · walk_at "goz"
        refine ⟨y, _, _, _, rfl, rfl, SqL.of upd_same, rfl, ?_⟩
        walk_at "goz"
        refine ⟨b, _, _, _, rfl, rfl, st1 _, rfl, ?_⟩
        walk_at "goz"
        refine ⟨y, _, _, _, rfl, rfl, upd_same, rfl, ?_⟩
        rw [upd_upd]
        have e4 : ag + n * (if decide (V.str "back" = V.str "swap") = true then (1 : Int) else 0) = ag + (if ("back" : Str) = "swap" then n else 0) := by
          rw [if_neg (by decide +kernel), if_neg (by decide +kernel)]
          omega
        generalize hL' : (⟨it, pc, ce, pa, se, hm_ + n, ag + n * (if decide (V.str "back" = V.str "swap") = true then (1 : Int) else 0), cr⟩ : Ln) = L' at *
        have ok' : L'.Ok := by rw [← hL']; exact ⟨lok.c0, lok.c1, lok.p0, lok.p1, lok.it⟩
        have hcr : L'.credited = cr := by rw [← hL']
        walk_at "goz"
        refine ⟨y, LnV L', _, _, rfl, rfl, ?_, rfl, ?_⟩
        · rw [← hL']; exact SqL.of upd_same
        walk_at "goz"
        refine ⟨y, L', rfl, ?_, ok', ?_⟩
        · rw [← hL']; exact SqL.of upd_same
        walk_at "goz"
        refine ⟨y, _, _, _, rfl, rfl, upd_same, rfl, ?_⟩
        rw [upd_upd]
        have mm := mid { L' with credited := if L'.worth < L'.credited then L'.worth else L'.credited } (turnL_home (by decide +kernel) (by decide +kernel) e4 hL')
        rw [← hL'] at mm ⊢
        exact And.intro ⟨_, rfl⟩ mm
      · walk_at "goz"
        refine ⟨y, _, _, _, rfl, rfl, SqL.of upd_same, rfl, ?_⟩
        walk_at "goz"
        refine ⟨b, _, _, _, rfl, rfl, st1 _, rfl, ?_⟩
        walk_at "goz"
        refine ⟨y, _, _, _, rfl, rfl, upd_same, rfl, ?_⟩
        rw [upd_upd]
        have e4 : ag + n * (if decide (V.str "swap" = V.str "swap") = true then (1 : Int) else 0) = ag + (if ("swap" : Str) = "swap" then n else 0) := by
          rw [if_pos (by decide +kernel), if_pos (by decide +kernel)]
          omega
        generalize hL' : (⟨it, pc, ce, pa, se, hm_ + n, ag + n * (if decide (V.str "swap" = V.str "swap") = true then (1 : Int) else 0), cr⟩ : Ln) = L' at *
        have ok' : L'.Ok := by rw [← hL']; exact ⟨lok.c0, lok.c1, lok.p0, lok.p1, lok.it⟩
        have hcr : L'.credited = cr := by rw [← hL']
        walk_at "goz"
        refine ⟨y, LnV L', _, _, rfl, rfl, ?_, rfl, ?_⟩
        · rw [← hL']; exact SqL.of upd_same
        walk_at "goz"
        refine ⟨y, L', rfl, ?_, ok', ?_⟩
        · rw [← hL']; exact SqL.of upd_same
        walk_at "goz"
        refine ⟨y, _, _, _, rfl, rfl, upd_same, rfl, ?_⟩
        rw [upd_upd]
        have mm := mid { L' with credited := if L'.worth < L'.credited then L'.worth else L'.credited } (turnL_home (by decide +kernel) (by decide +kernel) e4 hL')
        rw [← hL'] at mm ⊢
        exact And.intro ⟨_, rfl⟩ mm
      · walk_at "goz"
        exact mid _ rfl
end
section
variable {P : Program} {w : World} {K : PySem.W.Frag} {mg : Str → Option Value} {base : Heap}
abbrev N_step : List Str := ["_law_deed", "_law_orders", "_law_places", "_law_ahead", "_law_changes", "_law_change", "_law_line", "_law_order", "_law_at"]
abbrev P_step : List Str := ["_law_deed", "_law_orders"]
theorem sc_step : FnScope N_step P_step (defScope s_step) := ⟨rfl, rfl, rfl, by decide +kernel, rfl, by decide +kernel, by decide +kernel⟩
def sp_step (K : PySem.W.Frag) : Sp := fun vs H Q _ => ∃ (fp own : Addr → Prop) (p : Addr) (os : List OA) (M : List Od) (v : V) (d : Deed), vs = [v, .ref p] ∧ Acc K fp own H p os M ∧ WF M ∧ Mut fp H ∧ Dp K (off fp H) v (deedD d) ∧ d.Shape ∧ d.LinesOk ∧ refusalM M d = "" ∧ M.length ≤ 1000 ∧ RowsLe 1000 M ∧
  ∀ H' fp' own' os' r, Grow fp own fp' own' H → Mut fp' H' → Keep own H H' → Acc K fp' own' H' p os' (stepM M d) → Dp K (off fp' H') r (changesD (changesM M d)) → Q r H'
theorem c_step (T : Blt mg) (c_owed_by : Cal P w K mg base CX0 2 "_law_owed_by" P_owed_by (sp_owed_by K)) (c_turned : Cal P w K mg base CX0 2 "_law_turned" P_turned (sp_turned K)) (D : DefAt K mg "_law_step" s_step P_step) : Cal P w K mg base CX0 3 "_law_step" P_step (sp_step K) := by
  refine cal_of D sc_step (fun vs H Q E h => ?_) (fun f cdv A outer s H vs Q E hr h => ?_)
  · obtain ⟨fp, own, p, os, M, v, d, rfl, _⟩ := h
    rfl
  · obtain ⟨fp, own, p, os, M, v, d, rfl, AC, W, hm, hd, sh, lo, lg, sz, rl, q⟩ := h
    have hf := hm.has
    refine ⟨_, (pss_cons (ps_if (pt_cmpR op_eq (pe_ix (kx_tup K) (pv 0) pe_int (fun _ _ => rfl)) pe_str (nomark _))
        (pss_cons (ps_expr (pe_bm PySem.F.plainAttrs_list PySem.F.slot_list_append PySem.F.type_list_append mt_append (pv 1) (pa_cons (pe_lst (pa_cons (pe_lc (own := [("_law_line", 6)]) (g := gName 6) (tt := tYes) rfl sc_step.nd (ki_list K (pe_ix (kx_tup K) (pv 0) pe_int (fun _ _ => rfl))) (blkOk_by (N := N_step) (sc := defScope s_step) (by decide +kernel)) (fun _ _ _ _ _ => pg_name (i := 6) sc_step.nd rfl (Or.inl rfl)) (fun _ _ _ _ _ => pts_nil) (fun _ _ _ _ _ => (pe_op op_cat (pe_callTy (kc_list K) (by rfl) T.m_list PyProof.Rows.boot_list (pa_cons (pv 6) pa_nil)) (pe_lst (pa_cons pe_int (pa_cons pe_int (pa_cons pe_int (pa_cons pe_int pa_nil)))))))) (pa_cons pe_int (pa_cons (pe_lst pa_nil) pa_nil)))) pa_nil)))
        (pss_one (ps_ret (pe_lst pa_nil))))
        pss_nil)
      (pss_cons (ps_set (i := 2) sc_step.nd rfl (Or.inl rfl) (pe_lst (pa_cons (pe_ix (kx_tup K) (pv 0) pe_int (fun _ _ => rfl)) pa_nil)))
      (Evl.pss_cut (ps_if (pt_cmpR op_eq (pe_ix (kx_tup K) (pv 0) pe_int (fun _ _ => rfl)) pe_str (nomark _))
        (pss_one (ps_set (i := 2) sc_step.nd rfl (Or.inl rfl) (pe_lst (pa_cons (pe_ix (kx_tup K) (pv 0) pe_int (fun _ _ => rfl)) (pa_cons (pe_ix (kx_tup K) (pv 0) pe_int (fun _ _ => rfl)) pa_nil)))))
        pss_nil)
      (pss_cons (ps_set (i := 3) sc_step.nd rfl (Or.inr rfl) (pe_lc (own := [("_law_order", 7)]) (g := gName 7) (tt := tYes) rfl sc_step.nd (ki_list K (pv 1)) (blkOk_by (N := N_step) (sc := defScope s_step) (by decide +kernel)) (fun _ _ _ _ _ => pg_name (i := 7) sc_step.nd rfl (Or.inl rfl)) (fun _ _ _ _ _ => pts_nil) (fun _ _ _ _ _ => (pe_cal c_owed_by (hr.mono (by decide)) pass0 (pa_cons (pv 7) pa_nil)))))
      (pss_cons (ps_expr (pe_cal c_turned (hr.mono (by decide)) pass0 (pa_cons (pv 0) (pa_cons (pv 1) pa_nil))))
      (pss_cons (ps_setLc (i := 4) (own := [("_law_at", 8)]) (g := gName 8) (tt := tYes) rfl sc_step.nd rfl rfl (sw_true rfl rfl rfl (by decide +kernel)) (ki_list K (pv 2)) (blkOk_by (N := N_step) (sc := defScope s_step) (by decide +kernel)) (fun _ _ _ _ _ => pg_name (i := 8) sc_step.nd rfl (Or.inl rfl)) (fun _ _ _ _ _ => pts_nil) (fun _ _ _ _ _ => (pe_tup (pa_cons (pv 8) (pa_cons (pe_op op_sub (pe_cal c_owed_by (hr.mono (by decide)) pass0 (pa_cons (pe_ix (kx_list K) (pv 1) (pv 8) (fun _ _ => rfl)) pa_nil)) (pe_ix (kx_list K) (pv 3) (pv 8) (fun _ _ => rfl))) pa_nil)))))
      (pss_cons (ps_for PassesOwn.never rfl (ki_list K (pv 4)) (pg_name (i := 5) sc_step.nd rfl (Or.inl rfl))
        (pss_one (ps_expr (pe_bm PySem.F.plainAttrs_list PySem.F.slot_list_append PySem.F.type_list_append mt_append (pe_ix (kx_list K) (pe_ix (kx_list K) (pv 1) (pe_ix (kx_tup K) (pv 5) pe_int (fun _ _ => rfl)) (fun _ _ => rfl)) pe_int (fun _ _ => rfl)) (pa_cons (pe_tup (pa_cons (pe_ix (kx_tup K) (pv 0) pe_int (fun _ _ => rfl)) (pa_cons (pe_ix (kx_tup K) (pv 5) pe_int (fun _ _ => rfl)) pa_nil))) pa_nil)))))
      (pss_one (ps_ret (pv 4)))))))))), ?_⟩
    rcases d_cases d with no | ⟨ls, rfl⟩
    · have est : stepM M d = rowsM (turnM M d) d.word (changesM M d) := stepM_no no
      obtain ⟨b, o, rest, rfl, hb0, nw, pl⟩ := deed_gen hd sh no
      have hb := same_t off_same hb0
      have e1 := dec_str_no nw
      have pin := places_in lg
      have wok := word_ok sh
      have hT := SqL.of (K := K) AC.top
      have Wt := W.turn lg
      have i0 : atI (V.str d.word :: V.int o :: rest) 0 = some (V.str d.word) := atI_nat (j := 0) rfl
      have i1 : atI (V.str d.word :: V.int o :: rest) 1 = some (V.int o) := atI_nat (j := 1) rfl
      walk_at "goz"
      intro q0 hq0
      walk_at "goz"
      have s0 : Same H _ := same_new (o := .lst [V.int o]) hq0
      refine ⟨fun σ H' => ∃ (q : Addr), σ = [some (.ref b), some (.ref p), some (.ref q), none, none, none, none, none, none] ∧ Same H H' ∧ SqL K (off fp H') q ((placesM d).map V.int), ?_, ?_⟩
      · rcases pl with ⟨em, o2, r2, rfl, pe⟩ | ⟨nm, pe⟩
        · have e2 : decide (V.str d.word = V.str "move") = true := decide_eq_true (congrArg V.str em)
          have hb1 := same_t s0 hb
          have i2 : atI (V.str d.word :: V.int o :: V.int o2 :: r2) 2 = some (V.int o2) := atI_nat (j := 2) rfl
          walk_at "goz"
          intro q1 hq1
          walk_at "goz"
          refine ⟨s0.trans (same_new hq1), ?_⟩
          rw [pe]
          exact SqL.of (off_put ((hf.same s0).new hq1))
        · have e2 := dec_str_no nm
          have hb1 := same_t s0 hb
          walk_at "goz"
          rw [pe]
          exact SqL.of (off_put (hf.new hq0))
      rintro σ H1 ⟨pq, rfl, s1, hpq⟩
      have AC1 := AC.same s1
      have hT1 := SqL.of (K := K) AC1.top
      walk_at "goz"
      refine ⟨⟨_, hT1⟩, fun D1 hD1 => ?_⟩
      refine lcD_list (fp := fp) ((M.map Od.owed).map PyData.int) (by simpa using AC.len) (by simp; omega) hT1 hD1 (hf.same s1) (fun i x dd H8 R hx hdd s8 hf8 k => ?_) (fun H8 ys s8 hd8 r8 dp8 => ?_)
      · rw [List.getElem?_map] at hx
        rw [List.getElem?_map, List.getElem?_map] at hdd
        cases em : M[i]? with
        | none => rw [em] at hdd; cases hdd
        | some m =>
        rw [em] at hdd
        have hdd := Option.some.inj hdd
        subst hdd
        cases eo : os[i]? with
        | none => rw [eo] at hx; cases hx
        | some oa =>
        rw [eo] at hx
        have hx := Option.some.inj hx
        subst hx
        have O := (AC1.same s8).od i oa m eo em
        walk_at "goz"
        exact ⟨_, oa, m, rfl, O, W.ok m (List.mem_of_getElem? em), fun H9 s9 => k _ _ s9 (.int _)⟩
      have hy := dpAll_ints_inv r8
      subst hy
      have AC8 := AC1.same s8
      have hT8 := SqL.of (K := K) AC8.top
      have hb8 := same_t (off_mono (s1.trans s8)) hb0
      have hpq8 := same_l (off_mono s8) hpq
      have hf8 := (hf.same s1).same s8
      have hA8 : SqL K (off fp H8) D1 ((M.map Od.owed).map V.int) := SqL.of (by rw [off_out ((hf.same s1).new hD1)]; exact hd8)
      walk_at "goz"
      refine ⟨fp, own, p, os, M, _, d, rfl, AC8, W, hd.same (off_mono (s1.trans s8)), sh, no, lg, fun H9 k9 AC9 => ?_⟩
      have s9 := k9.off AC.sub
      have hb9 := same_t s9 hb8
      have hpq9 := same_l s9 hpq8
      have hA9 := same_l s9 hA8
      have hf9 := k9.has hf8
      have hT9 := SqL.of (K := K) AC9.top
      have k09 := (Keep.same (own := own) (s1.trans s8)).trans k9
      walk_at "goz"
      refine ⟨⟨_, same_l off_same hpq9⟩, fun D2 hD2 => ?_⟩
      refine lcD_list (fp := fp) ((changesM M d).map chD) (by unfold changesM; simp) (by have := places_le (d := d); unfold changesM; simp; omega) (same_l off_same hpq9) hD2 hf9 (fun i x dd H10 R hx hdd s10 hf10 k => ?_) (fun H10 ys s10 hd10 r10 dp10 => ?_)
      · rw [List.getElem?_map] at hx
        unfold changesM at hdd
        rw [List.getElem?_map, List.getElem?_map] at hdd
        cases ea : (placesM d)[i]? with
        | none => rw [ea] at hx; cases hx
        | some a =>
        rw [ea] at hx hdd
        have hx := Option.some.inj hx
        have hdd := Option.some.inj hdd
        subst hx
        subst hdd
        obtain ⟨a0, a1⟩ := pin a (List.mem_of_getElem? ea)
        have AC10 := AC9.same s10
        have hT10 := SqL.of (K := K) AC10.top
        have a1' : a < ((turnM M d).length : Int) := by rw [turnM_length]; exact a1
        obtain ⟨oa, ho, hat, hm, O⟩ := AC10.at_ a0 a1'
        have hA10 := same_l (off_same.trans s10) hA9
        have hatA : atI ((M.map Od.owed).map V.int) a = some (.int (ordAt M a).owed) := by
          refine (congrArg (atI _) (Int.toNat_of_nonneg a0).symm).trans (atI_nat ?_)
          rw [List.getElem?_map, List.getElem?_map, getD_at a0 a1]
          rfl
        walk_at "goz"
        refine ⟨off fp H10, oa, ordAt (turnM M d) a, rfl, O, Wt.at_ a0 a1', fun H11 s11 => ?_⟩
        have hA11 := same_l s11 hA10
        walk_at "goz"
        intro t ht
        exact k _ _ (s11.trans (same_new ht)) (dp_tup_new (hf10.same s11) ht (.cons (.int _) (.cons (.int _) .nil)))
      have AC10 := AC9.same s10
      have nf2 := hf9.new hD2
      have yl := r10.length
      rw [List.length_map] at yl
      have cl : (changesM M d).length ≤ 2 := by unfold changesM; rw [List.length_map]; exact places_le
      walk_at "goz"
      refine ⟨⟨_, SqL.of hd10⟩, ?_⟩
      refine for_list (K := K) (a := D2) (xs := ys) (fun i σ H' => ∃ v, σ = [some (.ref b), some (.ref p), some (.ref pq), some (.ref D1), some (.ref D2), v, none, none, none] ∧ Keep own H10 H' ∧ Acc K fp own H' p os (rowsM (turnM M d) d.word ((changesM M d).take i)))
        ⟨none, rfl, Keep.refl _, AC10⟩ (fun i σ H' _ ⟨v, _, k2, _⟩ => SqL.of ((k2 _ _ hd10).1 fun z => nf2 (AC.sub _ z))) ?_ ?_
      · rintro i x σ H11 hx ⟨v, rfl, k2, A2⟩
        obtain ⟨dd, hdd, dv⟩ := r10.got hx
        rw [List.getElem?_map] at hdd
        cases ec : (changesM M d)[i]? with
        | none => rw [ec] at hdd; cases hdd
        | some c =>
        rw [ec] at hdd
        have hdd := Option.some.inj hdd
        subst hdd
        obtain ⟨t, u1, u2, rfl, ht, h1, h2⟩ := tup2 dv
        rw [dp_int h1, dp_int h2] at ht
        have ht2 := same_t (((off_less (fun _ z => Or.inl z)).trans (k2.off AC.sub)).trans off_same) ht
        have pc : c.1 ∈ placesM d := by
          obtain ⟨a, ha, e⟩ := List.mem_map.mp (List.mem_of_getElem? ec)
          rw [← e]
          exact ha
        obtain ⟨a0, a1⟩ := pin _ pc
        have a1' : c.1 < ((rowsM (turnM M d) d.word ((changesM M d).take i)).length : Int) := by rw [rowsM_length, turnM_length]; exact a1
        obtain ⟨oa, ho, hat, hm, O⟩ := A2.at_ a0 a1'
        obtain ⟨ts, r1, r2⟩ := O.hr
        have hT2 := SqL.of (K := K) A2.top
        have hO2 := SqL.of (K := K) O.hd
        have hR2 := SqL.of (K := K) r1
        have s2 := (off_mono (fp := fp) s10).trans (k2.off AC.sub)
        have hb2 := same_t (s2.trans off_same) hb9
        have tsl : ts.length ≤ 1002 := by
          rw [r2.length, List.length_map]
          have := (rl.turn (d := d)).rows (w := d.word) (cs := (changesM M d).take i)
          have h3 := this.ord c.1
          have h4 := List.length_take (i := i) (l := changesM M d)
          omega
        walk_at "goz"
        refine ⟨.inl ⟨rfl, _, hR2⟩, ?_⟩
        walk_at "goz"
        intro u hu
        walk_at "goz"
        have nu : oa.rs ≠ u := ne_of_none r1 hu
        have hf11 := (k2.has ((hf9.same s10)))
        refine ⟨oa.rs, ts, _, rfl, rfl, by rw [upd_ne nu]; exact r1, Evl.sz_lt (by omega), ?_⟩
        refine ⟨_, rfl, (k2.trans (Keep.same (same_new hu))).put (A2.ow.2 oa (List.mem_of_getElem? ho)).2.2.1 ⟨_, same_new hu _ _ r1⟩, ?_⟩
        rw [take_succ' ec, rowsM_snoc]
        exact (A2.same (same_new hu)).addRow ho hm (by rw [upd_ne nu]; exact r1) (r2.same (off_mono (same_new hu))) (dp_tup_new hf11 hu (.cons (.str _) (.cons (.int _) .nil)))
      · rintro σ H11 ⟨v, rfl, k2, A2⟩
        rw [yl, List.take_length, ← est] at A2
        walk_at "goz"
        exact q H11 fp own os _ ⟨fun _ z => z, fun _ z => z, fun _ z => .inl z, fun _ z => .inl z⟩ (((k09.trans (Keep.same s10)).trans k2).mut hm) ((k09.trans (Keep.same s10)).trans k2) A2 (dp10.same (k2.off AC.sub))
    · 
      obtain ⟨b, x, rfl, hb, hx⟩ := deed_ord hd
      obtain ⟨la, ts, rfl, hla, hts⟩ := dp_list hx
      obtain ⟨l0, l1, lk⟩ := lo
      have tl := hts.length
      rw [List.length_map] at tl
      have hb' := same_t off_same hb
      have hT := SqL.of (K := K) AC.top
      have hl' := same_l off_same hla
      walk_at "goz"
      refine ⟨.inl ⟨rfl, _, hT⟩, ?_⟩
      walk_at "goz"
      refine ⟨⟨_, hl'⟩, fun D hD => ?_⟩
      refine lc_list (K := K) (a := la) (xs := ts) (fun i H' => ∃ xs : List Addr, Same H H' ∧ H' D = some (.lst (xs.map V.ref)) ∧ xs.length = i ∧ xs.Nodup ∧ (∀ x ∈ xs, H x = none ∧ x ≠ D ∧ H' x ≠ none) ∧ ∀ (j : Nat) x t, xs[j]? = some x → ls[j]? = some t → H' x = some (.lst (LnV t.new)))
        ⟨[], same_new hD, upd_same, rfl, .nil, (fun x h => nomatch h), (fun j x t h => nomatch h)⟩ (fun i H _ ⟨_, s, _⟩ => same_l s hl') ?_ ?_
      · rintro i v H2 hx2 ⟨xs, s2, hd2, hn, nd, fr, hv⟩
        obtain ⟨d, hd3, dv⟩ := hts.got hx2
        rw [List.getElem?_map] at hd3
        cases et : ls[i]? with
        | none => rw [et] at hd3; cases hd3
        | some t =>
        rw [et] at hd3
        have hd3 := Option.some.inj hd3
        subst hd3
        obtain ⟨c, u1, u2, u3, u4, rfl, hc, h1, h2, h3, h4⟩ := tup4 dv
        rw [dp_str h1, dp_int h2, dp_int h3, dp_int h4] at hc
        have hc2 := same_t (off_same.trans s2) hc
        refine ⟨wipe1, ?_⟩
        walk_at "goz"
        intro a1 q1
        walk_at "goz"
        intro a2 q2
        have n12 : a1 ≠ a2 := ne_of_none upd_same q2
        refine ⟨a1, a2, _, _, rfl, rfl, by rw [upd_ne n12]; exact upd_same, upd_same, Evl.sz_of (of_decide_eq_true rfl), fun a3 q3 => ?_⟩
        have s3 : Same H2 _ := (same_new (o := .lst [V.str t.item, V.int t.pieces, V.int t.cents, V.int t.pack]) q1).trans (same_new (o := .lst [V.int 0, V.int 0, V.int 0, V.int 0]) q2)
        have s4 := s3.trans (same_new (o := .lst (LnV t.new)) q3)
        have nD : D ≠ a3 := ne_of_none (s3 _ _ hd2) q3
        have il : i < ls.length := (List.getElem?_eq_some_iff.mp et).1
        refine ⟨xs.map V.ref, s4 _ _ hd2, Evl.sz_lt (by rw [List.length_map, hn]; omega), xs ++ [a3], same_mut (s2.trans s4) hD, by rw [upd_same, List.map_append]; rfl, by rw [List.length_append, hn]; rfl, ?_, ?_, ?_⟩
        · refine List.nodup_append.mpr ⟨nd, List.pairwise_singleton .., fun x hx y hy e => ?_⟩
          rw [List.mem_singleton] at hy
          subst hy
          subst e
          obtain ⟨_, _, z⟩ := fr x hx
          cases e2 : H2 x with
          | none => exact z e2
          | some u => rw [s3 _ _ e2] at q3; cases q3
        · intro x hx
          rcases List.mem_append.mp hx with h | h
          · obtain ⟨z1, z2, z3⟩ := fr x h
            refine ⟨z1, z2, ?_⟩
            rw [upd_ne z2]
            cases e2 : H2 x with
            | none => exact absurd e2 z3
            | some u => exact fun z => by have := (s4 _ _ e2).symm.trans z; cases this
          · rw [List.mem_singleton] at h
            subst h
            refine ⟨none_back (s2.trans s3) q3, nD.symm, ?_⟩
            rw [upd_ne nD.symm]
            exact fun z => by rw [upd_same] at z; cases z
        · intro j x t' hx ht
          rcases Nat.lt_or_ge j xs.length with hj | hj
          · rw [List.getElem?_append_left hj] at hx
            obtain ⟨z1, z2, z3⟩ := fr x (List.mem_of_getElem? hx)
            rw [upd_ne z2]
            exact s4 _ _ (hv j x t' hx ht)
          · rw [List.getElem?_append_right hj] at hx
            have e0 : j - xs.length = 0 := by
              have := (List.getElem?_eq_some_iff.mp hx).1
              simp only [List.length_cons, List.length_nil] at this
              omega
            rw [e0] at hx
            cases hx
            have ej : j = i := by omega
            subst ej
            rw [et] at ht
            cases ht
            rw [upd_ne nD.symm]
            exact upd_same
      · rintro H2 ⟨xs, s2, hd2, hn, nd, fr, hv⟩
        walk_at "goz"
        intro rs qr
        walk_at "goz"
        intro a qa
        walk_at "goz"
        have nrs : rs ≠ a := ne_of_none upd_same qa
        have s3 : Same H2 _ := same_new (o := .lst []) qr
        have s4 := s3.trans (same_new (o := .lst [.ref D, .int 0, .ref rs]) qa)
        have sH := s2.trans s4
        refine ⟨p, _, _, rfl, rfl, sH _ _ AC.top, Evl.sz_lt (by rw [List.length_map, AC.len]; omega), ?_⟩
        walk_at "goz"
        intro r q5
        walk_at "goz"
        have nDa : D ≠ a := ne_of_none (s3 _ _ hd2) qa
        have nDr : D ≠ rs := ne_of_none hd2 qr
        have nx : ∀ x ∈ xs, x ≠ a ∧ x ≠ rs := fun x hx => by
          obtain ⟨_, _, z⟩ := fr x hx
          cases e2 : H2 x with
          | none => exact absurd e2 z
          | some u => exact ⟨ne_of_none (s3 _ _ e2) qa, ne_of_none e2 qr⟩
        have new : ∀ x ∈ a :: D :: rs :: xs, H x = none := fun x hx => by
          simp only [List.mem_cons] at hx
          rcases hx with rfl | rfl | rfl | h
          · exact none_back (s2.trans s3) qa
          · exact hD
          · exact none_back s2 qr
          · exact (fr x h).1
        have O : OdAt K (upd (upd H2 rs (.lst [])) a (.lst [.ref D, .int 0, .ref rs])) (off (fun x => fp x ∨ x ∈ a :: D :: rs :: xs) (upd (upd H2 rs (.lst [])) a (.lst [.ref D, .int 0, .ref rs]))) ⟨a, D, rs, xs⟩ ⟨ls.map LineT.new, 0, []⟩ := by
          refine ⟨upd_same (H := upd H2 rs (.lst [])) (o := .lst [.ref D, .int 0, .ref rs]), s4 _ _ hd2, ?_, fun i x l hx hl => ?_, [], ?_, .nil⟩
          · show xs.length = (ls.map LineT.new).length
            rw [List.length_map, hn, tl]
          · have hl : (ls.map LineT.new)[i]? = some l := hl
            rw [List.getElem?_map] at hl
            cases et : ls[i]? with
            | none => rw [et] at hl; cases hl
            | some t =>
              rw [et] at hl
              have hl := Option.some.inj hl
              subst hl
              exact s4 _ _ (hv i x t hx et)
          · rw [upd_ne nrs]
            exact upd_same
        have AC4 := AC.frame (H' := upd (upd H2 rs (.lst [])) a (.lst [.ref D, .int 0, .ref rs])) (fp' := fun x => fp x ∨ x ∈ a :: D :: rs :: xs) (fun a o _ h => sH a o h) (fun x u e => by
          obtain ⟨h1, h2⟩ := off_some e
          rw [off_out fun z => z.elim h1 fun z => by rw [new x z] at h2; cases h2]
          exact sH _ _ h2) fun x z => .inl (AC.sub x z)
        have AC5 := AC4.addOd O (fun x hx => ⟨fun z => hf x (AC.sub x z) (new x hx), .inr hx⟩) (by
          refine List.nodup_cons.mpr ⟨fun z => ?_, List.nodup_cons.mpr ⟨fun z => ?_, List.nodup_cons.mpr ⟨fun z => ?_, nd⟩⟩⟩
          · simp only [List.mem_cons] at z
            rcases z with e | e | e
            · exact nDa e.symm
            · exact nrs e.symm
            · exact (nx a e).1 rfl
          · rcases List.mem_cons.mp z with e | e
            · exact nDr e
            · exact (fr D e).2.1 rfl
          · exact (nx rs z).2 rfl)
        have hf4 : Has (fun x => fp x ∨ x ∈ a :: D :: rs :: xs) (upd (upd H2 rs (.lst [])) a (.lst [.ref D, .int 0, .ref rs])) := fun x z => by
          rcases z with z | z
          · exact hf.same sH x z
          · simp only [List.mem_cons] at z
            rcases z with rfl | rfl | rfl | h
            · rw [upd_same]; exact fun z => nomatch z
            · rw [upd_ne nDa, upd_ne nDr, hd2]; exact fun z => nomatch z
            · rw [upd_ne nrs, upd_same]; exact fun z => nomatch z
            · rw [upd_ne (nx x h).1, upd_ne (nx x h).2]; exact (fr x h).2.2
        have hf5 : Has (fun x => fp x ∨ x ∈ a :: D :: rs :: xs) _ := hf4.upd (p := p) (o := .lst ((os.map fun o => V.ref o.a) ++ [.ref a]))
        have kk : Keep own H _ := ((Keep.same sH).put (zs := (os.map fun o => V.ref o.a) ++ [.ref a]) AC.ow.1 ⟨_, sH _ _ AC.top⟩).trans (Keep.same (same_new (o := .lst []) q5))
        have pn : ∀ x ∈ a :: D :: rs :: xs, x ≠ p := fun x hx e => hf p (AC.sub p AC.ow.1) (by rw [← e]; exact new x hx)
        refine q _ _ _ (os ++ [⟨a, D, rs, xs⟩]) _ ⟨fun x z => .inl z, fun x z => .inl z, fun x z => z.imp id (new x), fun x z => z.imp id fun z => ⟨new x z, .inr z⟩⟩ (fun x z => ?_) kk (AC5.same (same_new q5)) (dp_lst_new hf5 q5 .nil)
        rcases z with z | z
        · exact kk.mut hm x z
        · have e1 : ∀ o, (upd (upd H2 rs (.lst [])) a (.lst [.ref D, .int 0, .ref rs])) x = some o → upd (upd (upd (upd H2 rs (.lst [])) a (.lst [.ref D, .int 0, .ref rs])) p (.lst ((os.map fun o => V.ref o.a) ++ [.ref a]))) r (.lst []) x = some o := fun o e =>
            same_new q5 _ _ (by rw [upd_ne (pn x z)]; exact e)
          simp only [List.mem_cons] at z
          rcases z with rfl | rfl | rfl | h
          · exact ⟨_, e1 _ upd_same, tupO_lst⟩
          · exact ⟨_, e1 _ (s4 _ _ hd2), tupO_lst⟩
          · exact ⟨_, e1 _ (by rw [upd_ne nrs]; exact upd_same), tupO_lst⟩
          · obtain ⟨j, hj⟩ := List.getElem?_of_mem h
            have hj2 : j < ls.length := by
              have := (List.getElem?_eq_some_iff.mp hj).1
              omega
            exact ⟨_, e1 _ (s4 _ _ (hv j x _ hj (List.getElem?_eq_getElem hj2))), tupO_lst⟩
end
section
variable {P : Program} {w : World} {K : PySem.W.Frag} {mg : Str → Option Value} {base : Heap}
/-! ### a deed handed in, and tried -/
abbrev N_handed : List Str := ["_law_deed"]
abbrev P_handed : List Str := ["_law_deed"]
theorem sc_handed : FnScope N_handed P_handed (defScope s_handed) := ⟨rfl, rfl, rfl, by decide +kernel, rfl, by decide +kernel, by decide +kernel⟩
/-- what is handed in: the deed, an order's list of lines a new one -/
def Handed (K : PySem.W.Frag) (fp : Addr → Prop) (H H' : Hp) (v r : V) (d : Deed) : Prop :=
  ((∀ ls, d ≠ .ord ls) ∧ r = v) ∨ ∃ ls t q xs, d = .ord ls ∧ r = .ref t ∧ H t = none ∧ H' t = some (.tup [.str "order", .ref q]) ∧ H q = none ∧ q ≠ t ∧ H' q = some (.lst xs) ∧ DpAll K (off (And1 fp q) H') xs (ls.map lineD)
def sp_handed (K : PySem.W.Frag) : Sp := fun vs H Q _ => ∃ (fp : Addr → Prop) (v : V) (d : Deed), vs = [v] ∧ Has fp H ∧ Dp K (off fp H) v (deedD d) ∧ d.Shape ∧ ∀ H' r, Same H H' → Dp K (off fp H') r (deedD d) → Handed K fp H H' v r d → Q r H'
theorem c_handed (T : Blt mg) (D : DefAt K mg "_law_handed" s_handed P_handed) : Cal P w K mg base CX0 1 "_law_handed" P_handed (sp_handed K) := by
  refine cal_of D sc_handed (fun vs H Q E h => ?_) (fun f cdv A outer s H vs Q E hr h => ?_)
  · obtain ⟨fp, v, d, rfl, _⟩ := h
    rfl
  · obtain ⟨fp, v, d, rfl, hf, hd, sh, q'⟩ := h
    refine ⟨_, (pss_cons (ps_if (pt_cmpR op_eq (pe_ix (kx_tup K) (pv 0) pe_int (fun _ _ => rfl)) pe_str (nomark _))
        (pss_one (ps_ret (pe_tup (pa_cons pe_str (pa_cons (pe_callTy (kc_list K) (by rfl) T.m_list PyProof.Rows.boot_list (pa_cons (pe_ix (kx_tup K) (pv 0) pe_int (fun _ _ => rfl)) pa_nil)) pa_nil)))))
        pss_nil)
      (pss_one (ps_ret (pv 0)))), ?_⟩
    rcases d_cases d with no | ⟨ls, rfl⟩
    · obtain ⟨b, o, rest, rfl, hb0, nw, _⟩ := deed_gen hd sh no
      have hb := same_t off_same hb0
      have e1 := dec_str_no nw
      have i0 : atI (V.str d.word :: V.int o :: rest) 0 = some (V.str d.word) := atI_nat (j := 0) rfl
      walk_at "goz"
      exact q' H _ (Same.refl _) hd (.inl ⟨no, rfl⟩)
    · obtain ⟨b, x, rfl, hb, hx⟩ := deed_ord hd
      obtain ⟨la, ts, rfl, hla, hts⟩ := dp_list hx
      have hb' := same_t off_same hb
      have hl' := same_l off_same hla
      walk_at "goz"
      intro q hq
      walk_at "goz"
      intro t ht
      have s1 : Same H _ := same_new (o := .lst ts) hq
      have s2 := s1.trans (same_new (o := .tup [.str "order", .ref q]) ht)
      have ht0 := none_back s1 ht
      have nqt : q ≠ t := ne_of_none upd_same ht
      have nfq := hf.new hq
      have nft := hf.new ht0
      have hq2 : upd (upd H q (.lst ts)) t (.tup [.str "order", .ref q]) q = some (.lst ts) := by rw [upd_ne nqt]; exact upd_same
      have r2 : DpAll K (off (And1 fp q) (upd (upd H q (.lst ts)) t (.tup [.str "order", .ref q]))) ts (ls.map lineD) := by
        have e : Same (off fp H) (off (And1 fp q) (upd (upd H q (.lst ts)) t (.tup [.str "order", .ref q]))) := fun a o e => by
          obtain ⟨h1, h2⟩ := off_some e
          rw [off_out fun z => z.elim h1 fun z => by rw [z, hq] at h2; cases h2]
          exact s2 _ _ h2
        exact hts.same e
      have dl : Dp K (off fp (upd (upd H q (.lst ts)) t (.tup [.str "order", .ref q]))) (.ref q) (.list (ls.map lineD)) :=
        .lst (SqL.of (by rw [off_out nfq]; exact hq2)) (r2.same (off_less fun _ z => .inl z))
      exact q' _ _ s2 (.tup (.inl (.inl (by rw [off_out nft]; exact upd_same))) (.cons (.str _) (.cons dl .nil))) (.inr ⟨ls, t, q, ts, rfl, rfl, ht0, upd_same, hq, nqt, hq2, r2⟩)
abbrev N_tried : List Str := ["_law_book", "_law_deed"]
abbrev P_tried : List Str := ["_law_book", "_law_deed"]
theorem sc_tried : FnScope N_tried P_tried (defScope s_tried) := ⟨rfl, rfl, rfl, by decide +kernel, rfl, by decide +kernel, by decide +kernel⟩
def sp_tried (K : PySem.W.Frag) (R : BRep) (cl : Str → Addr) : Sp := fun vs H Q _ => sp_do R K cl vs H Q fun c _ H' => ∃ n ∈ errs9, c = .ref (cl n) ∧ Q (.str n) H'
theorem c_tried {R : BRep} {cl : Str → Addr} {ps : List Str} (ER : Errs K mg cl) (B_do : BCal P w K mg base 8 R.C "do" ps (sp_do R K cl)) (D : DefAt K mg "_law_tried" s_tried P_tried) : Cal P w K mg base CX0 9 "_law_tried" P_tried (sp_tried K R cl) := by
  refine cal_of D sc_tried (fun vs H Q E h => ?_) (fun f cdv A outer s H vs Q E hr h => ?_)
  · obtain ⟨fp, b, S, v, rfl, _⟩ := h
    rfl
  · refine ⟨_, (pss_one (ps_try_many rfl rfl takes0 (fun W pn xe tk _ => (pss_one (ps_ret (pe_bkS B_do (pv 0) (hr.mono (by decide)) (pa_cons (pv 1) pa_nil) (fun σ => passAt tk σ)))))
        (.cons ⟨by rfl, by decide, .inl (ER.g "NoDeed" (by decide))⟩ (fun _ _ _ _ _ _ _ => (pss_one (ps_ret pe_str)))
        (.cons ⟨by rfl, by decide, .inl (ER.g "NoLines" (by decide))⟩ (fun _ _ _ _ _ _ _ => (pss_one (ps_ret pe_str)))
        (.cons ⟨by rfl, by decide, .inl (ER.g "NoItem" (by decide))⟩ (fun _ _ _ _ _ _ _ => (pss_one (ps_ret pe_str)))
        (.cons ⟨by rfl, by decide, .inl (ER.g "NoNumber" (by decide))⟩ (fun _ _ _ _ _ _ _ => (pss_one (ps_ret pe_str)))
        (.cons ⟨by rfl, by decide, .inl (ER.g "FullBook" (by decide))⟩ (fun _ _ _ _ _ _ _ => (pss_one (ps_ret pe_str)))
        (.cons ⟨by rfl, by decide, .inl (ER.g "NoOrder" (by decide))⟩ (fun _ _ _ _ _ _ _ => (pss_one (ps_ret pe_str)))
        (.cons ⟨by rfl, by decide, .inl (ER.g "SameOrder" (by decide))⟩ (fun _ _ _ _ _ _ _ => (pss_one (ps_ret pe_str)))
        (.cons ⟨by rfl, by decide, .inl (ER.g "NoLine" (by decide))⟩ (fun _ _ _ _ _ _ _ => (pss_one (ps_ret pe_str)))
        (.cons ⟨by rfl, by decide, .inl (ER.g "TooMuch" (by decide))⟩ (fun _ _ _ _ _ _ _ => (pss_one (ps_ret pe_str)))
        .nil))))))))))), ?_⟩
    obtain ⟨fp, b, S, v, rfl, rp, sz, h⟩ := h
    refine ⟨_, rfl, R.ins rp, _, rfl, fp, b, S, v, rfl, rp, sz, ?_⟩
    have go : ∀ (c : Value) (d : Option Addr) (H' : Hp), (∃ n ∈ errs9, c = .ref (cl n) ∧ Q (.str n) H') → wMany K (fun _ _ _ _ => False) { nx := fun x H' => Q V.non H', rt := Q }
          [(Value.ref (cl "NoDeed"), fun x x_1 x_2 => tRet (tC (V.str "NoDeed"))), (Value.ref (cl "NoLines"), fun x x_1 x_2 => tRet (tC (V.str "NoLines"))),
            (Value.ref (cl "NoItem"), fun x x_1 x_2 => tRet (tC (V.str "NoItem"))), (Value.ref (cl "NoNumber"), fun x x_1 x_2 => tRet (tC (V.str "NoNumber"))),
            (Value.ref (cl "FullBook"), fun x x_1 x_2 => tRet (tC (V.str "FullBook"))), (Value.ref (cl "NoOrder"), fun x x_1 x_2 => tRet (tC (V.str "NoOrder"))),
            (Value.ref (cl "SameOrder"), fun x x_1 x_2 => tRet (tC (V.str "SameOrder"))), (Value.ref (cl "NoLine"), fun x x_1 x_2 => tRet (tC (V.str "NoLine"))),
            (Value.ref (cl "TooMuch"), fun x x_1 x_2 => tRet (tC (V.str "TooMuch")))] c d (start N_tried [.ref b, v]) H' := by
      rintro c d H' ⟨n, hn, rfl, hq⟩
      simp only [errs9, List.mem_cons, List.not_mem_nil, or_false] at hn
      rcases hn with rfl | rfl | rfl | rfl | rfl | rfl | rfl | rfl | rfl
      all_goals repeat (first
        | exact many_yes ER (by decide) fun a => hq
        | refine many_no ER (by decide) (by decide) (by decide +kernel) ?_)
    refine h.imp (fun ⟨d, h1, h2, h3, h4, h5⟩ => ⟨d, h1, h2, h3, h4, fun z => (h5 z).imp go⟩) (fun ⟨xs, h1, h2, h3, h4, h5⟩ => ⟨xs, h1, h2, h3, h4, h5.imp go⟩)
end
section
variable {P : Program} {w : World} {K : PySem.W.Frag} {mg : Str → Option Value} {base : Heap}
abbrev N_cell_at : List Str := ["_law_script", "_law_k"]
abbrev P_cell_at : List Str := ["_law_script", "_law_k"]
theorem sc_cell_at : FnScope N_cell_at P_cell_at (defScope s_cell_at) := ⟨rfl, rfl, rfl, by decide +kernel, rfl, by decide +kernel, by decide +kernel⟩
def cellAt (ns : List Int) (k : Nat) : Int := ns.getD k 0
def sp_cell_at (K : PySem.W.Frag) : Sp := fun vs H Q _ => ∃ (a : Addr) (ns : List Int) (k : Nat), vs = [.ref a, .int (k : Int)] ∧ SqL K H a (ns.map V.int) ∧ Q (.int (cellAt ns k)) H
theorem c_cell_at (T : Blt mg) (D : DefAt K mg "_law_cell_at" s_cell_at P_cell_at) : Cal P w K mg base CX0 1 "_law_cell_at" P_cell_at (sp_cell_at K) := by
  refine cal_of D sc_cell_at (fun vs H Q E h => ?_) (fun f cdv A outer s H vs Q E hr h => ?_)
  · obtain ⟨a, ns, k, rfl, _⟩ := h
    rfl
  · obtain ⟨a, ns, k, rfl, hS, q⟩ := h
    refine ⟨_, (pss_cons (ps_if (pt_cmpR op_lt (pv 1) (pe_callB (kc_len K) (by rfl) T.m_len PySem.boot_len (pa_cons (pv 0) pa_nil)) (nomark _))
        (pss_one (ps_ret (pe_ix (kx_list K) (pv 0) (pv 1) (fun _ _ => rfl))))
        pss_nil)
      (pss_one (ps_ret pe_int))), ?_⟩
    walk_at "go"
    refine ⟨a, _, rfl, Or.inl hS, ?_⟩
    walk_at "go"
    refine ite2 (fun h => ?_) (fun h => ?_)
    · have h := of_decide_eq_true h
      rw [List.length_map] at h
      have h' : k < ns.length := by omega
      walk_at "go"
      refine ⟨a, _, _, .int (cellAt ns k), rfl, rfl, hS, atI_nat ?_, q⟩
      rw [List.getElem?_map, List.getElem?_eq_getElem h']
      simp [cellAt, h']
    · have h : ¬ ((k : Int) < ((ns.map V.int).length : Nat)) := fun z => h (decide_eq_true z)
      rw [List.length_map] at h
      have e : cellAt ns k = 0 := by
        unfold cellAt
        rw [List.getD_eq_getElem?_getD, List.getElem?_eq_none (by omega)]
        rfl
      rw [e] at q
      exact q
end
section
variable {P : Program} {w : World} {K : PySem.W.Frag} {mg : Str → Option Value} {base : Heap}
abbrev N_lines_told : List Str := ["_law_order", "_law_line"]
abbrev P_lines_told : List Str := ["_law_order"]
theorem sc_lines_told : FnScope N_lines_told P_lines_told (defScope s_lines_told) := ⟨rfl, rfl, rfl, by decide +kernel, rfl, by decide +kernel, by decide +kernel⟩
def sp_lines_told (K : PySem.W.Frag) : Sp := fun vs H Q _ => ∃ (F : Hp) (fp : Addr → Prop) (o : OA) (m : Od), vs = [.ref o.a] ∧ OdAt K H F o m ∧ m.Ok ∧ Has fp H ∧ ∀ H' q xs, Same H H' → H q = none → H' q = some (.lst xs) → DpAll K (off (And1 fp q) H') xs (m.lines.map toldD) → Q (.ref q) H'
theorem c_lines_told (T : Blt mg) (D : DefAt K mg "_law_lines_told" s_lines_told P_lines_told) : Cal P w K mg base CX0 1 "_law_lines_told" P_lines_told (sp_lines_told K) := by
  refine cal_of D sc_lines_told (fun vs H Q E h => ?_) (fun f cdv A outer s H vs Q E hr h => ?_)
  · obtain ⟨F, fp, o, m, rfl, _⟩ := h
    rfl
  · obtain ⟨F, fp, o, m, rfl, O, ok, hf, q⟩ := h
    refine ⟨_, (pss_one (ps_ret (pe_lc (own := [("_law_line", 1)]) (g := gName 1) (tt := tYes) rfl sc_lines_told.nd (ki_list K (pe_ix (kx_list K) (pv 0) pe_int (fun _ _ => rfl))) (blkOk_by (N := N_lines_told) (sc := defScope s_lines_told) (by decide +kernel)) (fun _ _ _ _ _ => pg_name (i := 1) sc_lines_told.nd rfl (Or.inl rfl)) (fun _ _ _ _ _ => pts_nil) (fun _ _ _ _ _ => (pe_tup (pa_cons (pe_ix (kx_list K) (pv 1) pe_int (fun _ _ => rfl)) (pa_cons (pe_ix (kx_list K) (pv 1) pe_int (fun _ _ => rfl)) (pa_cons (pe_ix (kx_list K) (pv 1) pe_int (fun _ _ => rfl)) (pa_cons (pe_ix (kx_list K) (pv 1) pe_int (fun _ _ => rfl)) (pa_cons (pe_ix (kx_list K) (pv 1) pe_int (fun _ _ => rfl)) (pa_cons (pe_ix (kx_list K) (pv 1) pe_int (fun _ _ => rfl)) pa_nil))))))))))), ?_⟩
    have hO := SqL.of (K := K) O.hd
    walk_at "goz"
    refine ⟨⟨_, SqL.of O.hl⟩, fun D hD => ?_⟩
    refine lcD_list (fp := fp) (m.lines.map toldD) (by simpa using O.len) (by have := ok.le; simp; omega) (SqL.of O.hl) hD hf (fun i x d H8 R hx hd s8 hf8 k => ?_) (fun H8 ys s8 hd8 r8 _ => ?_)
    · rw [List.getElem?_map] at hx hd
      cases e : m.lines[i]? with
      | none => rw [e] at hd; cases hd
      | some l =>
        rw [e] at hd
        have hd := Option.some.inj hd
        subst hd
        cases e2 : o.lns[i]? with
        | none => rw [e2] at hx; cases hx
        | some y =>
          rw [e2] at hx
          have hx := Option.some.inj hx
          subst hx
          have hl := SqL.of (K := K) (s8 _ _ (O.ln i y l e2 e))
          walk_at "goz"
          intro t ht
          exact k _ _ (same_new ht) (dp_tup_new hf8 ht (.cons (.str _) (.cons (.int _) (.cons (.int _) (.cons (.int _) (.cons (.int _) (.cons (.int _) .nil)))))))
    · exact q H8 D ys s8 hD hd8 r8
end
section
variable {P : Program} {w : World} {K : PySem.W.Frag} {mg : Str → Option Value} {base : Heap}
abbrev N_pairs_alike : List Str := ["_law_found", "_law_due", "_law_k", "_law_part"]
abbrev P_pairs_alike : List Str := ["_law_found", "_law_due"]
theorem sc_pairs_alike : FnScope N_pairs_alike P_pairs_alike (defScope s_pairs_alike) := ⟨rfl, rfl, rfl, by decide +kernel, rfl, by decide +kernel, by decide +kernel⟩
def sp_pairs_alike (K : PySem.W.Frag) : Sp := fun vs H Q _ => ∃ (a b : Addr) (xs ys : List V) (ds : List PyData), vs = [.ref a, .ref b] ∧ SqL K H a xs ∧ SqL K H b ys ∧ DpAll K H xs ds ∧ DpAll K H ys ds ∧ ds.length ≤ 10000 ∧ (∀ d ∈ ds, FlatT d) ∧ Q (.bl true) H
theorem c_pairs_alike (T : Blt mg) (c_whole : Cal P w K mg base CX0 1 "_law_whole" P_whole sp_whole) (D : DefAt K mg "_law_pairs_alike" s_pairs_alike P_pairs_alike) : Cal P w K mg base CX0 2 "_law_pairs_alike" P_pairs_alike (sp_pairs_alike K) := by
  refine cal_of D sc_pairs_alike (fun vs H Q E h => ?_) (fun f cdv A outer s H vs Q E hr h => ?_)
  · obtain ⟨a, b, xs, ys, ds, rfl, _⟩ := h
    rfl
  · obtain ⟨a, b, xs, ys, ds, rfl, hx, hy, dx, dy, sz, fl, q⟩ := h
    refine ⟨_, (pss_cons (ps_if (PW.pt (pw_or (pt_not (pt_val (pe_callB (kc_isi K) (by rfl) T.m_isinstance (by decide +kernel) (pa_cons (pv 0) (pa_cons (pe_bltn (v := .ty "list") (by rfl) T.m_list PyProof.Rows.boot_list rfl) pa_nil))))) (pw_or1 (pt_cmpR op_ne (pe_callB (kc_len K) (by rfl) T.m_len PySem.boot_len (pa_cons (pv 0) pa_nil)) (pe_callB (kc_len K) (by rfl) T.m_len PySem.boot_len (pa_cons (pv 1) pa_nil)) (nomark _)))))
        (pss_one (ps_ret pe_bl))
        pss_nil)
      (pss_cons (ps_for PassesOwn.never rfl (pi_range1 (by rfl) T.m_range (pa_cons (pe_callB (kc_len K) (by rfl) T.m_len PySem.boot_len (pa_cons (pv 1) pa_nil)) pa_nil)) (pg_name (i := 2) sc_pairs_alike.nd rfl (Or.inl rfl))
        (pss_cons (ps_if (PW.pt (pw_or (pt_not (pt_val (pe_callB (kc_isi K) (by rfl) T.m_isinstance (by decide +kernel) (pa_cons (pe_ix (kx_list K) (pv 0) (pv 2) (fun _ _ => rfl)) (pa_cons (pe_bltn (v := .ty "tuple") (by rfl) T.m_tuple PyProof.Rows.boot_tuple rfl) pa_nil))))) (pw_or1 (pt_cmpR (ko_neD K hr.units) (pe_ix (kx_list K) (pv 0) (pv 2) (fun _ _ => rfl)) (pe_ix (kx_list K) (pv 1) (pv 2) (fun _ _ => rfl)) (nomark _)))))
          (pss_one (ps_ret pe_bl))
          pss_nil)
        (pss_one (ps_for PassesOwn.never rfl (ki_tup K (pe_ix (kx_list K) (pv 0) (pv 2) (fun _ _ => rfl))) (pg_name (i := 3) sc_pairs_alike.nd rfl (Or.inl rfl))
          (pss_one (ps_if (PW.pt (pw_and (pt_not (pt_val (pe_callB (kc_isi K) (by rfl) T.m_isinstance (by decide +kernel) (pa_cons (pv 3) (pa_cons (pe_bltn (v := .ty "str") (by rfl) T.m_str PyProof.Rows.boot_str rfl) pa_nil))))) (pw_and1 (pt_not (pt_val (pe_cal c_whole (hr.mono (by decide)) pass0 (pa_cons (pv 3) pa_nil)))))))
            (pss_one (ps_ret pe_bl))
            pss_nil))))))
      (pss_one (ps_ret pe_bl)))), ?_⟩
    have lx := dx.length
    have ly := dy.length
    have el : decide (V.int (xs.length : Int) = V.int (ys.length : Int)) = true := decide_eq_true (by rw [lx, ly])
    walk_at "goz"
    refine ⟨_, _, _, _, _, rfl, .ty _, tyx_l hx, kit_ty (r := true) (by decide +kernel), ?_⟩
    walk_at "goz"
    refine for_range (lo := 0) (n := ((ys.length : Nat) : Int).toNat) (fun i σ H' => ∃ v2 v3, σ = [some (.ref a), some (.ref b), v2, v3] ∧ H' = H) ⟨none, none, rfl, rfl⟩ ?_ ?_
    · rintro i σ H' hi ⟨v2, v3, rfl, rfl⟩
      have hi' : i < ds.length := by omega
      obtain ⟨x, hxi, dxi⟩ := dx.get (List.getElem?_eq_getElem hi')
      obtain ⟨y, hyi, dyi⟩ := dy.get (List.getElem?_eq_getElem hi')
      have fd := fl _ (List.getElem_mem hi')
      have sh : SeqAt.shaped ds[i] = true := shaped_fl fd.ok
      have ev := eqv_self sh
      generalize ds[i] = d at *
      obtain ⟨ps, rfl, pl, pf⟩ := fd
      obtain ⟨t, us, rfl, ht, hu⟩ := dp_tuple dxi
      have ax : atI xs (0 + (i : Int)) = some (.ref t) := by rw [Int.zero_add]; exact atI_nat hxi
      have ay : atI ys (0 + (i : Int)) = some y := by rw [Int.zero_add]; exact atI_nat hyi
      walk_at "goz"
      refine ⟨_, _, _, _, _, rfl, .ty _, tyx_t ht, kit_ty (r := true) (by decide +kernel), ?_⟩
      walk_at "goz"
      refine ⟨_, _, dxi, dyi, sh, sh, ?_⟩
      walk_at "goz"
      refine ⟨⟨_, ht⟩, ?_⟩
      refine for_tup (K := K) (a := t) (xs := us) (fun j σ H3 => ∃ v3, σ = [some (.ref a), some (.ref b), some (.int (0 + (i : Int))), v3] ∧ H3 = H') ⟨v3, rfl, rfl⟩ (fun j σ H3 _ ⟨v3, _, e⟩ => by rw [e]; exact ht) ?_ ?_
      · rintro j z σ H3 hj ⟨v3, rfl, rfl⟩
        obtain ⟨e, he, hz⟩ := hu.got hj
        rcases pf e (List.mem_of_getElem? he) with ⟨z', rfl, _⟩ | ⟨n, rfl⟩
        · rw [dp_str hz]
          walk_at "goz"
          refine ⟨_, _, _, _, _, rfl, .ty _, .base (.str z'), kit_ty (r := true) (by decide +kernel), ?_⟩
          walk_at "goz"
          rfl
        · rw [dp_int hz]
          walk_at "goz"
          refine ⟨_, _, _, _, _, rfl, .ty _, .base (.int n), kit_ty (r := false) (by decide +kernel), ?_⟩
          walk_at "goz"
          rfl
      · rintro σ H3 ⟨v3, rfl, rfl⟩
        exact ⟨_, _, rfl, rfl⟩
    · rintro σ H' ⟨v2, v3, rfl, rfl⟩
      walk_at "goz"
      exact q
end
section
variable {P : Program} {w : World} {K : PySem.W.Frag} {mg : Str → Option Value} {base : Heap}
theorem td_ord9 {H : Hp} {v : V} {ls : List LineT} (h : Dp K H v (.tuple [.str "order", .list (ls.map lineD)])) : ∃ p q ys, v = .ref p ∧ SqT K H p [.str "order", .ref q] ∧ SqL K H q ys ∧ DpAll K H ys (ls.map lineD) := by
  obtain ⟨p, x, rfl, hp, hx⟩ := deed_ord (ls := ls) h
  obtain ⟨q, ys, rfl, hq, hy⟩ := dp_list hx
  exact ⟨p, q, ys, rfl, hp, hq, hy⟩
abbrev N_parts_alike : List Str := ["_law_found", "_law_due", "_law_part"]
abbrev P_parts_alike : List Str := ["_law_found", "_law_due"]
theorem sc_parts_alike : FnScope N_parts_alike P_parts_alike (defScope s_parts_alike) := ⟨rfl, rfl, rfl, by decide +kernel, rfl, by decide +kernel, by decide +kernel⟩
def sp_parts_alike (K : PySem.W.Frag) : Sp := fun vs H Q _ => ∃ (v u : V) (d : PyData), vs = [v, u] ∧ Dp K H v d ∧ Dp K H u d ∧ FlatT d ∧ Q (.bl true) H
theorem c_parts_alike (T : Blt mg) (c_whole : Cal P w K mg base CX0 1 "_law_whole" P_whole sp_whole) (D : DefAt K mg "_law_parts_alike" s_parts_alike P_parts_alike) : Cal P w K mg base CX0 2 "_law_parts_alike" P_parts_alike (sp_parts_alike K) := by
  refine cal_of D sc_parts_alike (fun vs H Q E h => ?_) (fun f cdv A outer s H vs Q E hr h => ?_)
  · obtain ⟨v, u, d, rfl, _⟩ := h
    rfl
  · obtain ⟨v, u, d, rfl, dv, du, fd, q⟩ := h
    refine ⟨_, (pss_cons (ps_if (PW.pt (pw_or (pt_not (pt_val (pe_callB (kc_isi K) (by rfl) T.m_isinstance (by decide +kernel) (pa_cons (pv 0) (pa_cons (pe_bltn (v := .ty "tuple") (by rfl) T.m_tuple PyProof.Rows.boot_tuple rfl) pa_nil))))) (pw_or1 (pt_cmpR (ko_neD K hr.units) (pv 0) (pv 1) (nomark _)))))
        (pss_one (ps_ret pe_bl))
        pss_nil)
      (pss_cons (ps_for PassesOwn.never rfl (ki_tup K (pv 0)) (pg_name (i := 2) sc_parts_alike.nd rfl (Or.inl rfl))
        (pss_one (ps_if (PW.pt (pw_and (pt_not (pt_val (pe_callB (kc_isi K) (by rfl) T.m_isinstance (by decide +kernel) (pa_cons (pv 2) (pa_cons (pe_bltn (v := .ty "str") (by rfl) T.m_str PyProof.Rows.boot_str rfl) pa_nil))))) (pw_and1 (pt_not (pt_val (pe_cal c_whole (hr.mono (by decide)) pass0 (pa_cons (pv 2) pa_nil)))))))
          (pss_one (ps_ret pe_bl))
          pss_nil)))
      (pss_one (ps_ret pe_bl)))), ?_⟩
    have sh : SeqAt.shaped d = true := shaped_fl fd.ok
    have ev := eqv_self sh
    obtain ⟨ps, rfl, pl, pf⟩ := fd
    obtain ⟨t, us, rfl, ht, hu⟩ := dp_tuple dv
    walk_at "goz"
    refine ⟨_, _, _, _, _, rfl, .ty _, tyx_t ht, kit_ty (r := true) (by decide +kernel), ?_⟩
    walk_at "goz"
    refine ⟨_, _, dv, du, sh, sh, ?_⟩
    walk_at "goz"
    refine ⟨⟨_, ht⟩, ?_⟩
    refine for_tup (K := K) (a := t) (xs := us) (fun j σ H3 => ∃ v3, σ = [some (.ref t), some u, v3] ∧ H3 = H) ⟨none, rfl, rfl⟩ (fun j σ H3 _ ⟨v3, _, e⟩ => by rw [e]; exact ht) ?_ ?_
    · rintro j z σ H3 hj ⟨v3, rfl, rfl⟩
      obtain ⟨e, he, hz⟩ := hu.got hj
      rcases pf e (List.mem_of_getElem? he) with ⟨z', rfl, _⟩ | ⟨n, rfl⟩
      · rw [dp_str hz]
        walk_at "goz"
        refine ⟨_, _, _, _, _, rfl, .ty _, .base (.str z'), kit_ty (r := true) (by decide +kernel), ?_⟩
        walk_at "goz"
        rfl
      · rw [dp_int hz]
        walk_at "goz"
        refine ⟨_, _, _, _, _, rfl, .ty _, .base (.int n), kit_ty (r := false) (by decide +kernel), ?_⟩
        walk_at "goz"
        rfl
    · rintro σ H3 ⟨v3, rfl, rfl⟩
      walk_at "goz"
      exact q
abbrev N_deed_alike : List Str := ["_law_found", "_law_due", "_law_k"]
abbrev P_deed_alike : List Str := ["_law_found", "_law_due"]
theorem sc_deed_alike : FnScope N_deed_alike P_deed_alike (defScope s_deed_alike) := ⟨rfl, rfl, rfl, by decide +kernel, rfl, by decide +kernel, by decide +kernel⟩
def sp_deed_alike (K : PySem.W.Frag) : Sp := fun vs H Q _ => ∃ (v u : V) (d : PyData), vs = [v, u] ∧ Dp K H v d ∧ Dp K H u d ∧ AlikeD d ∧ Q (.bl true) H
theorem c_deed_alike (T : Blt mg) (c_parts_alike : Cal P w K mg base CX0 2 "_law_parts_alike" P_parts_alike (sp_parts_alike K)) (D : DefAt K mg "_law_deed_alike" s_deed_alike P_deed_alike) : Cal P w K mg base CX0 3 "_law_deed_alike" P_deed_alike (sp_deed_alike K) := by
  refine cal_of D sc_deed_alike (fun vs H Q E h => ?_) (fun f cdv A outer s H vs Q E hr h => ?_)
  · obtain ⟨v, u, d, rfl, _⟩ := h
    rfl
  · obtain ⟨v, u, d, rfl, dv, du, ad, q⟩ := h
    refine ⟨_, (pss_cons (ps_if (pt_cmpR op_ne (pe_ix (kx_tup K) (pv 1) pe_int (fun _ _ => rfl)) pe_str (nomark _))
        (pss_one (ps_ret (pe_cal c_parts_alike (hr.mono (by decide)) pass0 (pa_cons (pv 0) (pa_cons (pv 1) pa_nil)))))
        pss_nil)
      (pss_cons (ps_if (PW.pt (pw_or (pt_not (pt_val (pe_callB (kc_isi K) (by rfl) T.m_isinstance (by decide +kernel) (pa_cons (pv 0) (pa_cons (pe_bltn (v := .ty "tuple") (by rfl) T.m_tuple PyProof.Rows.boot_tuple rfl) pa_nil))))) (pw_or (pt_cmpR op_ne (pe_callB (kc_len K) (by rfl) T.m_len PySem.boot_len (pa_cons (pv 0) pa_nil)) pe_int (nomark _)) (pw_or1 (pt_cmpR op_ne (pe_ix (kx_tup K) (pv 0) pe_int (fun _ _ => rfl)) pe_str (nomark _))))))
        (pss_one (ps_ret pe_bl))
        pss_nil)
      (pss_cons (ps_if (PW.pt (pw_or (pt_not (pt_val (pe_callB (kc_isi K) (by rfl) T.m_isinstance (by decide +kernel) (pa_cons (pe_ix (kx_tup K) (pv 0) pe_int (fun _ _ => rfl)) (pa_cons (pe_bltn (v := .ty "list") (by rfl) T.m_list PyProof.Rows.boot_list rfl) pa_nil))))) (pw_or1 (pt_cmpR op_ne (pe_callB (kc_len K) (by rfl) T.m_len PySem.boot_len (pa_cons (pe_ix (kx_tup K) (pv 0) pe_int (fun _ _ => rfl)) pa_nil)) (pe_callB (kc_len K) (by rfl) T.m_len PySem.boot_len (pa_cons (pe_ix (kx_tup K) (pv 1) pe_int (fun _ _ => rfl)) pa_nil)) (nomark _)))))
        (pss_one (ps_ret pe_bl))
        pss_nil)
      (pss_cons (ps_for PassesOwn.never rfl (pi_range1 (by rfl) T.m_range (pa_cons (pe_callB (kc_len K) (by rfl) T.m_len PySem.boot_len (pa_cons (pe_ix (kx_tup K) (pv 1) pe_int (fun _ _ => rfl)) pa_nil)) pa_nil)) (pg_name (i := 2) sc_deed_alike.nd rfl (Or.inl rfl))
        (pss_one (ps_if (pt_not (pt_val (pe_cal c_parts_alike (hr.mono (by decide)) pass0 (pa_cons (pe_ix (kx_list K) (pe_ix (kx_tup K) (pv 0) pe_int (fun _ _ => rfl)) (pv 2) (fun _ _ => rfl)) (pa_cons (pe_ix (kx_list K) (pe_ix (kx_tup K) (pv 1) pe_int (fun _ _ => rfl)) (pv 2) (fun _ _ => rfl)) pa_nil)))))
          (pss_one (ps_ret pe_bl))
          pss_nil)))
      (pss_one (ps_ret pe_bl)))))), ?_⟩
    rcases ad with ⟨wd, r, rfl, hw, fd⟩ | ⟨ls, rfl, ll, li⟩
    · obtain ⟨t, us, rfl, ht, hu⟩ := dp_tuple du
      cases hu with
      | cons h1 h2 =>
        have h1 := dp_str h1
        subst h1
        rename_i xs
        have i0 : atI (V.str wd :: xs) 0 = some (V.str wd) := atI_nat (j := 0) rfl
        walk_at "goz"
        rw [decide_eq_false (show ¬ V.str wd = V.str "order" from fun e => hw (V.str.inj e))]
        walk_at "goz"
        exact ⟨_, _, _, rfl, dv, du, fd, q⟩
    · obtain ⟨p, a, xs, rfl, hp, ha, dx⟩ := td_ord9 dv
      obtain ⟨p2, b, ys, rfl, hp2, hb, dy⟩ := td_ord9 du
      have lx := dx.length
      have ly := dy.length
      have el : decide (V.int (xs.length : Int) = V.int (ys.length : Int)) = true := decide_eq_true (by rw [lx, ly])
      have i0 : ∀ a, atI [V.str "order", V.ref a] 0 = some (V.str "order") := fun _ => atI_nat (j := 0) rfl
      have i1 : ∀ a, atI [V.str "order", V.ref a] 1 = some (V.ref a) := fun _ => atI_nat (j := 1) rfl
      have ia0 := i0 a
      have ia1 := i1 a
      have ib0 := i0 b
      have ib1 := i1 b
      have eo : decide (V.str "order" = V.str "order") = true := decide_eq_true rfl
      have e2 : decide (V.int (([V.str "order", V.ref a].length : Nat) : Int) = V.int 2) = true := decide_eq_true rfl
      walk_at "goz"
      refine ⟨_, _, _, _, _, rfl, .ty _, tyx_t hp, kit_ty (r := true) (by decide +kernel), ?_⟩
      walk_at "goz"
      refine ⟨_, _, _, _, _, rfl, .ty _, tyx_l ha, kit_ty (r := true) (by decide +kernel), ?_⟩
      rw [List.length_map] at lx ly
      walk_at "goz"
      refine for_range (lo := 0) (n := ((ys.length : Nat) : Int).toNat) (fun i σ H' => ∃ v2, σ = [some (.ref p), some (.ref p2), v2] ∧ H' = H) ⟨none, rfl, rfl⟩ ?_ ?_
      · rintro i σ H' hi ⟨v2, rfl, rfl⟩
        have hi' : i < (ls.map lineD).length := by rw [List.length_map]; omega
        obtain ⟨x, hxi, dxi⟩ := dx.get (List.getElem?_eq_getElem hi')
        obtain ⟨y, hyi, dyi⟩ := dy.get (List.getElem?_eq_getElem hi')
        have fd : FlatT (ls.map lineD)[i] := by
          rw [List.getElem_map]
          exact flat_line (li _ (List.getElem_mem _))
        generalize (ls.map lineD)[i] = d at *
        have ax : atI xs (0 + (i : Int)) = some x := by rw [Int.zero_add]; exact atI_nat hxi
        have ay : atI ys (0 + (i : Int)) = some y := by rw [Int.zero_add]; exact atI_nat hyi
        walk_at "goz"
        refine ⟨_, _, _, rfl, dxi, dyi, fd, ?_⟩
        walk_at "goz"
        rfl
      · rintro σ H' ⟨v2, rfl, rfl⟩
        walk_at "goz"
        exact q
end
section
variable {P : Program} {w : World} {K : PySem.W.Frag} {mg : Str → Option Value} {base : Heap}
theorem row_flat {rs : List (Str × Int)} (h : ∀ r ∈ rs, PyData.strOk r.1 = true) : ∀ d ∈ rs.map rowD, FlatT d := fun d hd => by
  obtain ⟨r, hr, rfl⟩ := List.mem_map.mp hd
  refine ⟨_, rfl, by show 2 ≤ 100; decide, fun p hp => ?_⟩
  simp only [List.mem_cons, List.not_mem_nil, or_false] at hp
  rcases hp with rfl | rfl
  · exact .inl ⟨_, rfl, h r hr⟩
  · exact .inr ⟨_, rfl⟩
abbrev N_rows_alike : List Str := ["_law_found", "_law_due", "_law_row"]
abbrev P_rows_alike : List Str := ["_law_found", "_law_due"]
theorem sc_rows_alike : FnScope N_rows_alike P_rows_alike (defScope s_rows_alike) := ⟨rfl, rfl, rfl, by decide +kernel, rfl, by decide +kernel, by decide +kernel⟩
def sp_rows_alike (K : PySem.W.Frag) : Sp := fun vs H Q _ => ∃ (a b : Addr) (xs ys : List V) (rs : List (Str × Int)), vs = [.ref a, .ref b] ∧ SqL K H a xs ∧ SqL K H b ys ∧ DpAll K H xs (rs.map rowD) ∧ DpAll K H ys (rs.map rowD) ∧ (∀ r ∈ rs, PyData.strOk r.1 = true) ∧ Q (.bl true) H
theorem c_rows_alike (T : Blt mg) (c_whole : Cal P w K mg base CX0 1 "_law_whole" P_whole sp_whole) (D : DefAt K mg "_law_rows_alike" s_rows_alike P_rows_alike) : Cal P w K mg base CX0 2 "_law_rows_alike" P_rows_alike (sp_rows_alike K) := by
  refine cal_of D sc_rows_alike (fun vs H Q E h => ?_) (fun f cdv A outer s H vs Q E hr h => ?_)
  · obtain ⟨a, b, xs, ys, rs, rfl, _⟩ := h
    rfl
  · obtain ⟨a, b, xs, ys, rs, rfl, hx, hy, dx, dy, ok, q⟩ := h
    refine ⟨_, (pss_cons (ps_if (PW.pt (pw_or (pt_not (pt_val (pe_callB (kc_isi K) (by rfl) T.m_isinstance (by decide +kernel) (pa_cons (pv 0) (pa_cons (pe_bltn (v := .ty "list") (by rfl) T.m_list PyProof.Rows.boot_list rfl) pa_nil))))) (pw_or1 (pt_cmpR (ko_neD K hr.units) (pv 0) (pv 1) (nomark _)))))
        (pss_one (ps_ret pe_bl))
        pss_nil)
      (pss_cons (ps_for PassesOwn.never rfl (ki_list K (pv 0)) (pg_name (i := 2) sc_rows_alike.nd rfl (Or.inl rfl))
        (pss_one (ps_if (PW.pt (pw_or (pt_not (pt_val (pe_callB (kc_isi K) (by rfl) T.m_isinstance (by decide +kernel) (pa_cons (pv 2) (pa_cons (pe_bltn (v := .ty "tuple") (by rfl) T.m_tuple PyProof.Rows.boot_tuple rfl) pa_nil))))) (pw_or (pt_not (pt_val (pe_callB (kc_isi K) (by rfl) T.m_isinstance (by decide +kernel) (pa_cons (pe_ix (kx_tup K) (pv 2) pe_int (fun _ _ => rfl)) (pa_cons (pe_bltn (v := .ty "str") (by rfl) T.m_str PyProof.Rows.boot_str rfl) pa_nil))))) (pw_or1 (pt_not (pt_val (pe_cal c_whole (hr.mono (by decide)) pass0 (pa_cons (pe_ix (kx_tup K) (pv 2) pe_int (fun _ _ => rfl)) pa_nil))))))))
          (pss_one (ps_ret pe_bl))
          pss_nil)))
      (pss_one (ps_ret pe_bl)))), ?_⟩
    have shp := list_fl (row_flat ok)
    have ev := eqv_self shp
    walk_at "goz"
    refine ⟨_, _, _, _, _, rfl, .ty _, tyx_l hx, kit_ty (r := true) (by decide +kernel), ?_⟩
    walk_at "goz"
    refine ⟨_, _, .lst hx dx, .lst hy dy, shp, shp, ?_⟩
    walk_at "goz"
    refine ⟨⟨_, hx⟩, ?_⟩
    refine for_list (K := K) (a := a) (xs := xs) (fun i σ H' => ∃ v, σ = [some (.ref a), some (.ref b), v] ∧ H' = H) ⟨none, rfl, rfl⟩ (fun i σ H' _ ⟨v, _, e⟩ => by rw [e]; exact hx) ?_ ?_
    · rintro i x σ H' hi ⟨v, rfl, rfl⟩
      obtain ⟨d, hd, dv⟩ := dx.got hi
      rw [List.getElem?_map] at hd
      cases ec : rs[i]? with
      | none => rw [ec] at hd; cases hd
      | some r =>
      rw [ec] at hd
      have hd := Option.some.inj hd
      subst hd
      obtain ⟨t, u1, u2, rfl, ht, h1, h2⟩ := tup2 dv
      rw [dp_str h1, dp_int h2] at ht
      walk_at "goz"
      refine ⟨_, _, _, _, _, rfl, .ty _, tyx_t ht, kit_ty (r := true) (by decide +kernel), ?_⟩
      walk_at "goz"
      refine ⟨_, _, _, _, _, rfl, .ty _, .base (.str r.1), kit_ty (r := true) (by decide +kernel), ?_⟩
      walk_at "goz"
      all_goals rfl
    · rintro σ H' ⟨v, rfl, rfl⟩
      walk_at "goz"
      exact q
end
section
variable {P : Program} {w : World} {K : PySem.W.Frag} {mg : Str → Option Value} {base : Heap}
theorem tri_flat {ts : List Tri} : ∀ d ∈ ts.map triD, FlatT d := fun d hd => by
  obtain ⟨t, _, rfl⟩ := List.mem_map.mp hd
  exact ⟨_, rfl, by show 3 ≤ 100; decide, fun p hp => by
    simp only [List.mem_cons, List.not_mem_nil, or_false] at hp
    rcases hp with rfl | rfl | rfl <;> exact .inr ⟨_, rfl⟩⟩
theorem told_flat {m : Od} (ok : m.Ok) : ∀ d ∈ m.lines.map toldD, FlatT d := fun d hd => by
  obtain ⟨l, hl, rfl⟩ := List.mem_map.mp hd
  refine ⟨_, rfl, by show 6 ≤ 100; decide, fun p hp => ?_⟩
  simp only [List.mem_cons, List.not_mem_nil, or_false] at hp
  rcases hp with rfl | rfl | rfl | rfl | rfl | rfl
  · exact .inl ⟨_, rfl, (ok.ln l hl).it⟩
  all_goals exact .inr ⟨_, rfl⟩
end
section
variable {K : PySem.W.Frag} {R : BRep} {F F' fp fp' own own' : Addr → Prop} {H H' : Hp} {b p : Addr} {S S' : BS} {os os' : List OA} {M : List Od}
/-- the account's data lies off more -/
theorem Acc.wide (A : Acc K F own H p os M) (W : WF M) (m : Mut F' H) (sub : ∀ a, own a → F' a) : Acc K F' own H p os M :=
  ⟨A.top, A.len, fun k o m' ho hm => by
    have O := A.od k o m' ho hm
    obtain ⟨ts, h1, h2⟩ := O.hr
    exact ⟨O.hd, O.hl, O.len, O.ln, ts, h1, flat_off m (Same.refl _) (rows_flat (W.ok m' (List.mem_of_getElem? hm)).rw) (h2.same off_same)⟩, A.role, A.ow, sub⟩
/-- a book was asked, or did something, or gave something away -/
structure Bw (fp : Addr → Prop) (H : Hp) (fp' : Addr → Prop) (H' : Hp) : Prop where
  n : ∀ a, fp' a → fp a ∨ H a = none
  k : Keep fp H H'
theorem Bw.refl : Bw fp H fp H := ⟨fun _ z => .inl z, .refl H⟩
theorem Bw.same (s : Same H H') : Bw fp H fp H' := ⟨fun _ z => .inl z, .same s⟩
theorem Bw.of (g : GrowF fp fp' H) (k : Keep fp H H') : Bw fp H fp' H' := ⟨g.n, k⟩
theorem Bw.trans {fp1 fp2 : Addr → Prop} {H1 H2 : Hp} (a : Bw fp H fp1 H1) (c : Bw fp1 H1 fp2 H2) : Bw fp H fp2 H2 := ⟨fun x z => (c.n x z).elim (a.n x) fun z => .inr (a.k.none z), a.k.then c.k fun x z => a.n x z⟩
/-- what lies off the book -/
theorem Bw.off (a : Bw fp H fp' H') : Same (off fp H) (off fp' H') := fun x o e => by
  obtain ⟨h1, h2⟩ := off_some e
  rw [off_out fun z => (a.n x z).elim h1 fun z => by rw [z] at h2; cases h2]
  exact (a.k x o h2).1 h1
/-- what lies off more than the book -/
theorem Bw.offG {fp1 fp2 G : Addr → Prop} (w : Bw fp1 H fp2 H') (hG : ∀ a, fp1 a → G a) : Same (Of.off G H) (Of.off (fun a => G a ∨ fp2 a) H') := fun x o e => by
  obtain ⟨h1, h2⟩ := off_some e
  rw [off_out fun z => z.elim h1 fun z => (w.n x z).elim (fun z => h1 (hG x z)) fun z => by rw [z] at h2; cases h2]
  exact (w.k x o h2).1 fun z => h1 (hG x z)
/-- a new list changes -/
theorem Bw.put (a : Bw fp H fp' H') {q : Addr} {zs : List V} (h : H q = none) (hl : ∃ ys, H' q = some (.lst ys)) : Bw fp H fp' (upd H' q (.lst zs)) :=
  ⟨a.n, a.k.then ((Keep.refl H').put (own := fun a => a = q) rfl hl) fun x z => .inr (by rw [z]; exact h)⟩
/-- a list that the book has given away changes -/
theorem Bw.give (a : Bw fp H fp' H') {q : Addr} {zs : List V} (h : fp q) (hl : ∃ ys, H' q = some (.lst ys)) : Bw fp H fp' (upd H' q (.lst zs)) :=
  ⟨a.n, a.k.then ((Keep.refl H').put (own := fun a => a = q) rfl hl) fun x z => .inl (by rw [z]; exact h)⟩
/-- .. and the book is as it was -/
theorem BRep.put (r : R.Rep fp H b S) {q : Addr} {zs : List V} (h : ¬ fp q) (hl : ∃ ys, H q = some (.lst ys)) : R.Rep fp (upd H q (.lst zs)) b S := by
  obtain ⟨ys, hl⟩ := hl
  exact R.stays r (fun x o z e => by have ne : x ≠ q := fun w => h (by rw [← w]; exact z); rw [upd_ne ne]; exact e) fun x o t e => by
    have ne : x ≠ q := fun w => by
      rw [w, hl] at e
      rw [← Option.some.inj e] at t
      exact tupO_lst t
    rw [upd_ne ne]; exact e
/-- a book beside a plain account of it -/
structure Pr (R : BRep) (K : PySem.W.Frag) (F fp own : Addr → Prop) (H : Hp) (b : Addr) (S : BS) (p : Addr) (os : List OA) : Prop where
  rep : R.Rep fp H b S
  acc : Acc K F own H p os S.M
  wf : WF S.M
  sub : ∀ a, fp a → F a
  dis : ∀ a, fp a → ¬ own a
  mt : Mut F H
theorem Pr.same (s : Pr R K F fp own H b S p os) (e : Same H H') : Pr R K F fp own H' b S p os := ⟨BRep.same s.rep e, s.acc.same e, s.wf, s.sub, s.dis, (Keep.same (own := fun _ => False) e).mut s.mt⟩
theorem Pr.call (s : Pr R K F fp own H b S p os) (g : GrowF fp fp' H) (k : Keep fp H H') (r : R.Rep fp' H' b S) : Pr R K (fun a => F a ∨ fp' a) fp' own H' b S p os := by
  have gF : GrowF F (fun a => F a ∨ fp' a) H := ⟨fun a z => .inl z, fun a z => z.elim .inl fun z => (g.n a z).imp (s.sub a) id⟩
  exact ⟨r, s.acc.frame (fun a o z e => (k a o e).1 fun t => s.dis a t z) (off_keep k s.sub gF) fun a z => .inl (s.acc.sub a z), s.wf, fun a z => .inr z, fun a z h => (g.n a z).elim (fun z => s.dis a z h) fun z => s.mt.has a (s.acc.sub a h) z, fun a z => z.elim (k.mut s.mt a) (R.mt r a)⟩
/-- deeds that go, one behind the other -/
def Legs : BS → List Deed → Prop
  | _, [] => True
  | S, d :: r => (d.Shape ∧ d.LinesOk ∧ refusalM S.M d = "" ∧ refuseM S.M d = "") ∧ Legs (S.did d) r
theorem legs_at : ∀ {ds : List Deed} {S : BS} {n : Nat} {d : Deed}, Legs S ds → ds[n]? = some d → d.Shape ∧ d.LinesOk ∧ refusalM ((ds.take n).foldl BS.did S).M d = "" ∧ refuseM ((ds.take n).foldl BS.did S).M d = ""
  | [], _, _, _, _, e => by cases e
  | d0 :: r, S, 0, d, h, e => by cases e; exact h.1
  | d0 :: r, S, n + 1, d, h, e => legs_at (ds := r) (S := S.did d0) (n := n) h.2 e
theorem legs_snoc : ∀ {ds : List Deed} {S : BS} {d : Deed}, Legs S ds → (d.Shape ∧ d.LinesOk ∧ refusalM (ds.foldl BS.did S).M d = "" ∧ refuseM (ds.foldl BS.did S).M d = "") → Legs S (ds ++ [d])
  | [], S, d, _, h => ⟨h, trivial⟩
  | d0 :: r, S, d, h, g => ⟨h.1, legs_snoc (ds := r) (S := S.did d0) h.2 g⟩
theorem legs_init : ∀ {ds : List Deed} {S : BS} {d : Deed}, Legs S (ds ++ [d]) → Legs S ds
  | [], S, d, _ => trivial
  | d0 :: r, S, d, h => ⟨h.1, legs_init (ds := r) (S := S.did d0) h.2⟩
theorem legs_take : ∀ {ds : List Deed} {S : BS} {n : Nat}, Legs S ds → Legs S (ds.take n)
  | [], _, n, _ => by rw [List.take_nil]; trivial
  | _ :: _, _, 0, _ => trivial
  | _ :: r, S, n + 1, h => ⟨h.1, legs_take (ds := r) (n := n) h.2⟩
theorem legs_facts : ∀ {ds : List Deed} {S : BS}, Legs S ds → WF S.M → WF (ds.foldl BS.did S).M ∧ (∀ n, RowsLe n S.M → RowsLe (n + 2 * ds.length) (ds.foldl BS.did S).M) ∧ (ds.foldl BS.did S).M.length ≤ S.M.length + ds.length ∧ (ds.foldl BS.did S).past.length = S.past.length + ds.length
  | [], S, _, W => ⟨W, fun n h => h, Nat.le_refl _, rfl⟩
  | d :: r, S, h, W => by
    obtain ⟨⟨sh, lo, rn, _⟩, h2⟩ := h
    obtain ⟨i1, i2, i3, i4⟩ := legs_facts (ds := r) (S := S.did d) h2 (W.step sh lo rn)
    have sl := step_length (M := S.M) (d := d)
    have i3 : ((d :: r).foldl BS.did S).M.length ≤ (stepM S.M d).length + r.length := i3
    have i4 : ((d :: r).foldl BS.did S).past.length = (S.past.length + 1) + r.length := i4
    refine ⟨i1, fun n hn => ?_, by rw [List.length_cons]; omega, by rw [List.length_cons]; omega⟩
    have := i2 (n + 2) (hn.step (d := d))
    rw [List.length_cons, show n + 2 * (r.length + 1) = n + 2 + 2 * r.length by omega]
    exact this
abbrev B0 : BS := ⟨[], []⟩
theorem legs0 {ds : List Deed} (h : Legs B0 ds) : WF (ds.foldl BS.did B0).M ∧ RowsLe (2 * ds.length) (ds.foldl BS.did B0).M ∧ (ds.foldl BS.did B0).M.length ≤ ds.length ∧ (ds.foldl BS.did B0).past.length = ds.length := by
  obtain ⟨a, c, d, e⟩ := legs_facts h ⟨fun m h => nomatch h⟩
  have := c 0 fun m h => nomatch h
  rw [Nat.zero_add] at this
  have e' : (ds.foldl BS.did B0).past.length = 0 + ds.length := e
  have d' : (ds.foldl BS.did B0).M.length ≤ 0 + ds.length := d
  exact ⟨a, this, by omega, by omega⟩
end
section
variable {P : Program} {w : World} {K : PySem.W.Frag} {mg : Str → Option Value} {base : Heap} {CL CO CB : Addr}
theorem NDm.pmkN {X : Cx} {cl : Str → Addr} (E : NDm X.K X.mg cl) (n : Str) (hn : n ∈ (["NothingDone"] : List Str)) {m : Str} {j : Nat} {p p2 pos : Pos} (hg : Gl X n := by rfl) (hdb : (n == ("__debug__" : Str)) = false := by decide) :
    L2N.PMk X (.Call (.Name n p) [.Constant (.str m) j p2] [] pos) (fun _ H Q => Q (.ref (cl n)) none H) := by
  have hn := List.mem_singleton.mp hn
  subst hn
  exact L2N.pmk_own PySem.F.excBase_ValueError E.q E.g E.kp (raises_own E.sb E.ty) hg hdb
theorem MN_undo {cl : Str → Addr} (Z : PF K CL CO CB) (T : Blt mg) (ND : NDm K mg cl) (m_Order_take_back : MCal P w K mg base CX0 2 CO "take_back" P_Order_take_back (sp_Order_take_back K CL CO))
    (D : MAt K CB "undo" "Book.undo" s_Book_undo P_Book_undo) : MCal P w K mg base (L2N.CX P w) 3 CB "undo" P_Book_undo (sp_undo2 (theR K CL CO CB) K cl) := by
  refine mcal_ofN Z.cB D sc_Book_undo (fun vs H Q E h => ?_) (fun f cdv A outer s H vs Q E hr h => ?_)
  · obtain ⟨fp, b, S, rfl, _⟩ := h
    rfl
  · obtain ⟨fp, b, S, rfl, r, pz, q, qe⟩ := h
    refine ⟨_, (pss_cons (ps_if (pt_not (pt_truth (pe_fld (pv 0) rfl) (by intro _; rfl)))
        (pss_one (L2N.ps_raise rfl (L2N.takes_of rfl rfl rfl rfl) (ND.pmkN "NothingDone" (by decide))))
        pss_nil)
      (pss_cons (ps_set (i := 1) sc_Book_undo.nd rfl (Or.inl rfl) (pe_bm0 PySem.F.plainAttrs_list PySem.F.slot_list_pop PySem.F.type_list_pop mt_pop (pe_fld (pv 0) rfl)))
      (pss_cons (ps_if (pt_cmpR op_eq (pe_ix (kx_tup K) (pv 1) pe_int (fun _ _ => rfl)) pe_str (nomark _))
        (pss_cons (ps_expr (pe_bm0 PySem.F.plainAttrs_list PySem.F.slot_list_pop PySem.F.type_list_pop mt_pop (pe_fld (pv 0) rfl)))
        (pss_one (ps_ret (pv 1))))
        pss_nil)
      (pss_cons (ps_expr (pe_m0 m_Order_take_back (pe_ix (kx_list K) (pe_fld (pv 0) rfl) (pe_ix (kx_tup K) (pv 1) pe_int (fun _ _ => rfl)) (fun _ _ => rfl)) (hr.mono (by decide)) pass0))
      (Evl.pss_cut (ps_if (pt_cmpR op_eq (pe_ix (kx_tup K) (pv 1) pe_int (fun _ _ => rfl)) pe_str (nomark _))
        (pss_one (ps_expr (pe_m0 m_Order_take_back (pe_ix (kx_list K) (pe_fld (pv 0) rfl) (pe_ix (kx_tup K) (pv 1) pe_int (fun _ _ => rfl)) (fun _ _ => rfl)) (hr.mono (by decide)) pass0)))
        pss_nil)
      (pss_one (ps_ret (pv 1)))))))), ?_⟩
    obtain ⟨ES, dx, ol, dl, os, dv, A, hi⟩ := id r
    have hb := A.hb
    obtain ⟨M, past⟩ := S
    have lE := A.lM.symm.trans A.lE
    cases past with
    | nil =>
      have ed : dv = [] := by
        have := Paired.length A.dv
        rw [List.length_reverse] at this
        exact List.eq_nil_of_length_eq_zero this
      subst ed
      have hd := SqL.of (K := K) A.hd
      walk_at "gop"
      refine ⟨false, .inl ⟨_, hd, rfl⟩, ?_⟩
      walk_at "gop"
      exact qe rfl H fp .refl (.refl H) r
    | cons p rest =>
      obtain ⟨d, M0⟩ := p
      obtain ⟨gd, E0, un, hs⟩ := hi
      obtain ⟨q1, q2⟩ := q d M0 rest rfl
      obtain ⟨dv', v, rfl⟩ : ∃ dv' v, dv = dv' ++ [v] := by
        refine ⟨dv.dropLast, dv.getLast (fun z => ?_), (List.dropLast_concat_getLast _).symm⟩
        have := Paired.length A.dv
        rw [z] at this
        simp only [List.reverse_nil, List.length_nil, List.length_cons] at this
        omega
      have hd := A.hd
      have hd' := SqL.of (K := K) hd
      obtain ⟨f1, f2, f3, f4⟩ := A.fps
      walk_at "gop"
      refine ⟨true, .inl ⟨_, hd', by cases dv' <;> rfl⟩, ?_⟩
      walk_at "gop"
      refine ⟨.inl ⟨rfl, _, hd'⟩, ?_⟩
      walk_at "gop"
      refine ⟨dl, _, v, rfl, rfl, hd, last_get, ?_⟩
      rw [List.dropLast_concat]
      obtain ⟨dO, A1⟩ := A.deedLess gd.ok
      have k1 : Keep fp H (upd H dl (.lst dv')) := Keep.upd1 f3 hd no_lst no_lst
      have ndl : ol ≠ dl := A.nol
      have g1 : ∀ x u, x ≠ dl → H x = some u → upd H dl (.lst dv') x = some u := fun x u n e => by rw [upd_ne n]; exact e
      have hd1 : upd H dl (.lst dv') dl = some (.lst dv') := upd_same
      generalize upd H dl (.lst dv') = H1 at *
      have hb1 := A1.hb
      have ho1 := A1.ho
      by_cases od : ∃ ls, d = .ord ls
      · obtain ⟨ls, rfl⟩ := od
        obtain ⟨⟨m, rfl⟩, rfl⟩ := un
        obtain ⟨os', oo, rfl⟩ : ∃ os' o, os = os' ++ [o] := by
          refine ⟨os.dropLast, os.getLast (fun z => ?_), (List.dropLast_concat_getLast _).symm⟩
          have := A.lM
          rw [z, List.length_append] at this
          simp only [List.length_nil, List.length_cons] at this
          omega
        have ho0 := A.ho
        rw [List.map_append] at ho1
        have f : ∀ x u, x ≠ ol → x ≠ dl → H x = some u → upd H1 ol (.lst (os'.map fun o => V.ref o.a)) x = some u := fun x u n1 n2 e => by rw [upd_ne n1]; exact g1 x u n2 e
        have h2 : upd H1 ol (.lst (os'.map fun o => V.ref o.a)) dl = some (.lst dv') := by rw [upd_ne (Ne.symm ndl)]; exact hd1
        obtain ⟨fq, ⟨t, xs, rfl, ht, hq, hx, hst⟩, A2⟩ := ShpAt.less A hs.good.ok (hist_lt hs) f upd_same h2
        have ht1 : H1 t = some (.tup [.str "order", .ref oo.q]) := by
          have ne : t ≠ ol := fun z => by rw [z, upd_same] at ht; cases ht
          rw [upd_ne ne] at ht
          exact ht
        have k2 : Keep fp H (upd H1 ol (.lst (os'.map fun o => V.ref o.a))) := k1.trans (Keep.upd1 f2 ho1 no_lst no_lst)
        have hT := SqT.of (K := K) ht1
        walk_at "gop"
        refine ⟨.inl ⟨rfl, _, SqL.of ho1⟩, ?_⟩
        walk_at "gop"
        refine ⟨ol, _, .ref oo.a, rfl, rfl, ho1, last_get, ?_⟩
        rw [show ((os'.map fun o => V.ref o.a) ++ [oo].map fun o => V.ref o.a).dropLast = os'.map fun o => V.ref o.a from List.dropLast_concat]
        walk_at "gop"
        exact q2 ls rfl _ t oo.q xs k2 fq ⟨E0, dx, ol, dl, os', dv', A2, hs⟩ ht hq (flat_off (k2.mut A.mt) (.refl _) (lines_flat hst) hx)
      · have no : ∀ ls, d ≠ .ord ls := fun ls z => od ⟨ls, z⟩
        obtain ⟨sh, ⟨ls, t, o2, xs, e1, _⟩ | ⟨_, dd⟩⟩ := dO
        · exact absurd e1 (no ls)
        have fl := deed_flat sh no
        have fin : ∀ H', Keep fp H H' → TupK H1 H' → ShpAt K CL CO CB fp H' b M0 E0 rest dx ol dl os dv' → Q v H' := fun H' k t A' =>
          q1 no H' v k ⟨E0, dx, ol, dl, os, dv', A', hs⟩ (fl.off (k.mut A.mt) (.refl _) (fl.tupK t dd))
        cases d with
        | ord ls => exact absurd rfl (no ls)
        | goods x o l n =>
          obtain ⟨p, rfl, hp⟩ := deed_goods dd
          obtain ⟨n1, n2, n3, n4⟩ := goods_ne (show GoodsW x from sh)
          have e1 : decide (V.str x = V.str "order") = false := dec_str_no n1
          have e2 : decide (V.str x = V.str "move") = false := dec_str_no n2
          obtain ⟨oo, m, es, e, ea, eo, O, mok, el, eM, eE, nx⟩ := UndAt.ask (n := 0) un gd.ok gd.el A1
          have oh := O.hd
          have mo := List.mem_of_getElem? eo
          walk_at "gop"
          refine ⟨oo, m, es, e, rfl, O, mok, el, fun H2 k2 O2 => ?_⟩
          have hp2 := SqT.tupK k2.tupK hp
          have A2 := nx H2 k2 O2
          have k3 : Keep fp H H2 := k1.trans (k2.wide (f4 oo mo).1)
          walk_at "gop"
          refine ⟨fun σ H' => σ = [some (.ref b), some (.ref p)] ∧ Keep fp H H' ∧ TupK H1 H' ∧ ShpAt K CL CO CB fp H' b M0 E0 rest dx ol dl os dv', ?_, ?_⟩
          rotate_left
          · rintro σ H' ⟨rfl, k, t, A'⟩
            walk_at "gop"
            exact fin H' k t A'
          walk_at "gop"
          exact ⟨k2.tupK, A2⟩
        | money x o n =>
          obtain ⟨p, rfl, hp⟩ := deed_money dd
          have e1 : decide (V.str x = V.str "order") = false := dec_str_no (by rcases (show MoneyW x from sh) with rfl | rfl <;> decide +kernel)
          have e2 : decide (V.str x = V.str "move") = false := dec_str_no (by rcases (show MoneyW x from sh) with rfl | rfl <;> decide +kernel)
          obtain ⟨oo, m, es, e, ea, eo, O, mok, el, eM, eE, nx⟩ := UndAt.ask (n := 0) un gd.ok gd.el A1
          have oh := O.hd
          have mo := List.mem_of_getElem? eo
          walk_at "gop"
          refine ⟨oo, m, es, e, rfl, O, mok, el, fun H2 k2 O2 => ?_⟩
          have hp2 := SqT.tupK k2.tupK hp
          have A2 := nx H2 k2 O2
          have k3 : Keep fp H H2 := k1.trans (k2.wide (f4 oo mo).1)
          walk_at "gop"
          refine ⟨fun σ H' => σ = [some (.ref b), some (.ref p)] ∧ Keep fp H H' ∧ TupK H1 H' ∧ ShpAt K CL CO CB fp H' b M0 E0 rest dx ol dl os dv', ?_, ?_⟩
          rotate_left
          · rintro σ H' ⟨rfl, k, t, A'⟩
            walk_at "gop"
            exact fin H' k t A'
          walk_at "gop"
          exact ⟨k2.tupK, A2⟩
        | move o l n =>
          obtain ⟨p, rfl, hp⟩ := deed_move dd
          obtain ⟨ne, M1, E1, un, un2⟩ := un
          obtain ⟨oo, m, es, e, ea, eo, O, mok, el, eM, eE, nx⟩ := UndAt.ask (n := 0) un gd.ok gd.el A1
          have oh := O.hd
          have mo := List.mem_of_getElem? eo
          walk_at "gop"
          refine ⟨oo, m, es, e, rfl, O, mok, el, fun H2 k2 O2 => ?_⟩
          have hp2 := SqT.tupK k2.tupK hp
          have A2 := nx H2 k2 O2
          have k3 : Keep fp H H2 := k1.trans (k2.wide (f4 oo mo).1)
          walk_at "gop"
          refine ⟨fun σ H' => σ = [some (.ref b), some (.ref p)] ∧ Keep fp H H' ∧ TupK H1 H' ∧ ShpAt K CL CO CB fp H' b M0 E0 rest dx ol dl os dv', ?_, ?_⟩
          rotate_left
          · rintro σ H' ⟨rfl, k, t, A'⟩
            walk_at "gop"
            exact fin H' k t A'
          have hb2 := A2.hb
          have ho2 := A2.ho
          have h0 : 0 ≤ o := un.1
          have g0 : 0 ≤ l := un2.1
          have nt : o.toNat ≠ l.toNat := by omega
          have ko := (List.getElem?_eq_some_iff.mp eo).1
          have km : o.toNat < M.length := by have z : os.length = M.length := A.lM; rw [← z]; exact ko
          have ke : o.toNat < ES.length := by rw [← lE]; exact km
          have ok1 : ∀ m' ∈ M1, m'.Ok := fun m' hm => by
            rw [eM] at hm
            rcases List.mem_or_eq_of_mem_set hm with z | rfl
            · exact gd.ok _ z
            · obtain ⟨_, m2, es2, e2', _, _, eM0, _⟩ := un2
              refine hs.good.ok _ (List.mem_of_getElem? (i := o.toNat) ?_)
              rw [eM0, List.getElem?_set_ne nt.symm, eM]
              exact List.getElem?_set_self km
          have el1 : ∀ (k : Nat) m' es', M1[k]? = some m' → E1[k]? = some es' → es'.length = m'.rows.length := fun k m' es' z1 z2 => by
            rw [eM] at z1
            rw [eE] at z2
            by_cases z : o.toNat = k
            · subst z
              rw [List.getElem?_set_self km] at z1
              rw [List.getElem?_set_self ke] at z2
              cases z1
              cases z2
              show es.length = m.rows.dropLast.length
              rw [List.length_append, List.length_singleton] at el
              rw [List.length_dropLast]
              omega
            · rw [List.getElem?_set_ne z] at z1 z2
              exact gd.el k m' es' z1 z2
          obtain ⟨oo2, m2, es2, e2, ea2, eo2, O', mok2, el2, _, _, nx2⟩ := UndAt.ask (n := 0) un2 ok1 el1 A2
          have oh2 := O'.hd
          have mo2 := List.mem_of_getElem? eo2
          walk_at "gop"
          refine ⟨oo2, m2, es2, e2, rfl, O', mok2, el2, fun H3 k4 O3 => ?_⟩
          have A3 := nx2 H3 k4 O3
          have k5 : Keep fp H H3 := k3.trans (k4.wide (f4 oo2 mo2).1)
          exact ⟨rfl, k5, k2.tupK.trans k4.tupK, A3⟩
end
section
variable {P : Program} {w : World} {K : PySem.W.Frag} {mg : Str → Option Value} {base : Heap}
abbrev N_of_one_class : List Str := ["_law_e", "_law_found"]
abbrev P_of_one_class : List Str := ["_law_e"]
theorem sc_of_one_class : FnScope N_of_one_class P_of_one_class (defScope s_of_one_class) := ⟨rfl, rfl, rfl, by decide +kernel, rfl, by decide +kernel, by decide +kernel⟩
def sp_one (cl : Str → Addr) (src : List Str) : Addr → Addr → Sp := fun D a vs H Q _ => ∃ n ∈ src, D = cl n ∧ vs = [.ref a] ∧ ∀ H', Same H H' → Q (.bl true) H'
theorem one_count : ∀ n ∈ ten, ([decide (n = "NoDeed"), decide (n = "NoLines"), decide (n = "NoItem"), decide (n = "NoNumber")] ++ [decide (n = "FullBook"), decide (n = "NoOrder"), decide (n = "SameOrder")] ++ [decide (n = "NoLine"), decide (n = "TooMuch"), decide (n = "NothingDone")]).count true = 1 := by decide +kernel
theorem c_of_one_class {cl : Str → Addr} {src : List Str} (T : Blt mg) (E10 : OneE K mg cl src) (D : DefAt K mg "_law_of_one_class" s_of_one_class P_of_one_class) : CalE P w K mg base 1 "_law_of_one_class" P_of_one_class (sp_one cl src) := by
  refine cal_ofE D sc_of_one_class (fun D a vs H Q E h => ?_) (fun f cdv A outer s H vs Q E p D hz hf hr h => ?_)
  · obtain ⟨n, _, _, rfl, _⟩ := h
    rfl
  · obtain ⟨n, hn, rfl, rfl, q⟩ := h
    have HC := E10.c n hn
    have ct := one_count n (E10.s n hn)
    have ki := fun m hm => E10.i n hn m hm
    refine ⟨_, (pss_cons (ps_set (i := 1) sc_of_one_class.nd rfl (Or.inl rfl) (pe_lst (pa_cons (pe_callB (call_isP (List.Mem.head _) HC hz hf) (by rfl) T.m_isinstance (by decide +kernel) (pa_cons (pv 0) (pa_cons (pe_glob (v := .ref (cl "NoDeed")) (by rfl) (E10.g "NoDeed" (by decide)) rfl) pa_nil))) (pa_cons (pe_callB (call_isP (List.Mem.head _) HC hz hf) (by rfl) T.m_isinstance (by decide +kernel) (pa_cons (pv 0) (pa_cons (pe_glob (v := .ref (cl "NoLines")) (by rfl) (E10.g "NoLines" (by decide)) rfl) pa_nil))) (pa_cons (pe_callB (call_isP (List.Mem.head _) HC hz hf) (by rfl) T.m_isinstance (by decide +kernel) (pa_cons (pv 0) (pa_cons (pe_glob (v := .ref (cl "NoItem")) (by rfl) (E10.g "NoItem" (by decide)) rfl) pa_nil))) (pa_cons (pe_callB (call_isP (List.Mem.head _) HC hz hf) (by rfl) T.m_isinstance (by decide +kernel) (pa_cons (pv 0) (pa_cons (pe_glob (v := .ref (cl "NoNumber")) (by rfl) (E10.g "NoNumber" (by decide)) rfl) pa_nil))) pa_nil))))))
      (pss_cons (ps_set (i := 1) sc_of_one_class.nd rfl (Or.inl rfl) (pe_op op_cat (pv 1) (pe_lst (pa_cons (pe_callB (call_isP (List.Mem.head _) HC hz hf) (by rfl) T.m_isinstance (by decide +kernel) (pa_cons (pv 0) (pa_cons (pe_glob (v := .ref (cl "FullBook")) (by rfl) (E10.g "FullBook" (by decide)) rfl) pa_nil))) (pa_cons (pe_callB (call_isP (List.Mem.head _) HC hz hf) (by rfl) T.m_isinstance (by decide +kernel) (pa_cons (pv 0) (pa_cons (pe_glob (v := .ref (cl "NoOrder")) (by rfl) (E10.g "NoOrder" (by decide)) rfl) pa_nil))) (pa_cons (pe_callB (call_isP (List.Mem.head _) HC hz hf) (by rfl) T.m_isinstance (by decide +kernel) (pa_cons (pv 0) (pa_cons (pe_glob (v := .ref (cl "SameOrder")) (by rfl) (E10.g "SameOrder" (by decide)) rfl) pa_nil))) pa_nil))))))
      (pss_cons (ps_set (i := 1) sc_of_one_class.nd rfl (Or.inl rfl) (pe_op op_cat (pv 1) (pe_lst (pa_cons (pe_callB (call_isP (List.Mem.head _) HC hz hf) (by rfl) T.m_isinstance (by decide +kernel) (pa_cons (pv 0) (pa_cons (pe_glob (v := .ref (cl "NoLine")) (by rfl) (E10.g "NoLine" (by decide)) rfl) pa_nil))) (pa_cons (pe_callB (call_isP (List.Mem.head _) HC hz hf) (by rfl) T.m_isinstance (by decide +kernel) (pa_cons (pv 0) (pa_cons (pe_glob (v := .ref (cl "TooMuch")) (by rfl) (E10.g "TooMuch" (by decide)) rfl) pa_nil))) (pa_cons (pe_callB (call_isP (List.Mem.head _) HC hz hf) (by rfl) T.m_isinstance (by decide +kernel) (pa_cons (pv 0) (pa_cons (pe_glob (v := .ref (cl "NothingDone")) (by rfl) (E10.g "NothingDone" (by decide)) rfl) pa_nil))) pa_nil))))))
      (pss_one (ps_ret (pe_and (pe_callB (call_isP (List.Mem.head _) HC hz hf) (by rfl) T.m_isinstance (by decide +kernel) (pa_cons (pv 0) (pa_cons (pe_bltn (v := .ty "ValueError") (by rfl) T.m_ValueError (by decide +kernel) rfl) pa_nil))) (pe_one (pe_cmpR op_eq (pe_bm PySem.F.plainAttrs_list PySem.F.slot_list_count PySem.F.type_list_count (mt_countBK K) (pv 1) (pa_cons pe_bl pa_nil)) pe_int (nomark _))))))))), ?_⟩
    walk_at "goz"
    refine ⟨.ref (cl "NoDeed"), .ref (cl "NoDeed"), _, rfl, fun u z => z, ki "NoDeed" (by decide), ?_⟩
    walk_at "goz"
    refine ⟨.ref (cl "NoLines"), .ref (cl "NoLines"), _, rfl, fun u z => z, ki "NoLines" (by decide), ?_⟩
    walk_at "goz"
    refine ⟨.ref (cl "NoItem"), .ref (cl "NoItem"), _, rfl, fun u z => z, ki "NoItem" (by decide), ?_⟩
    walk_at "goz"
    refine ⟨.ref (cl "NoNumber"), .ref (cl "NoNumber"), _, rfl, fun u z => z, ki "NoNumber" (by decide), ?_⟩
    walk_at "goz"
    generalize hb1 : [decide (n = "NoDeed"), decide (n = "NoLines"), decide (n = "NoItem"), decide (n = "NoNumber")] = B1 at ct
    intro t1 g1
    have s1 := same_new (o := .lst [V.bl (decide (n = "NoDeed")), .bl (decide (n = "NoLines")), .bl (decide (n = "NoItem")), .bl (decide (n = "NoNumber"))]) g1
    have e1 : upd H t1 (.lst [V.bl (decide (n = "NoDeed")), .bl (decide (n = "NoLines")), .bl (decide (n = "NoItem")), .bl (decide (n = "NoNumber"))]) t1 = some (.lst (B1.map V.bl)) := by rw [← hb1]; exact upd_same
    have l1 : B1.length = 4 := by rw [← hb1]; rfl
    generalize upd H t1 _ = H1 at *
    walk_at "goz"
    refine ⟨.ref (cl "FullBook"), .ref (cl "FullBook"), _, rfl, fun u z => z, ki "FullBook" (by decide), ?_⟩
    walk_at "goz"
    refine ⟨.ref (cl "NoOrder"), .ref (cl "NoOrder"), _, rfl, fun u z => z, ki "NoOrder" (by decide), ?_⟩
    walk_at "goz"
    refine ⟨.ref (cl "SameOrder"), .ref (cl "SameOrder"), _, rfl, fun u z => z, ki "SameOrder" (by decide), ?_⟩
    walk_at "goz"
    generalize hb2 : [decide (n = "FullBook"), decide (n = "NoOrder"), decide (n = "SameOrder")] = B2 at ct
    intro t2 g2
    have s2 := same_new (o := .lst [V.bl (decide (n = "FullBook")), .bl (decide (n = "NoOrder")), .bl (decide (n = "SameOrder"))]) g2
    have e2 : upd H1 t2 (.lst [V.bl (decide (n = "FullBook")), .bl (decide (n = "NoOrder")), .bl (decide (n = "SameOrder"))]) t2 = some (.lst (B2.map V.bl)) := by rw [← hb2]; exact upd_same
    have l2 : B2.length = 3 := by rw [← hb2]; rfl
    have f1 := s2 _ _ e1
    generalize upd H1 t2 _ = H2 at *
    walk_at "goz"
    refine ⟨_, _, _, _, rfl, rfl, f1, e2, Evl.sz_of (by simp; omega), fun t3 g3 => ?_⟩
    rw [← List.map_append]
    have s3 := same_new (o := .lst ((B1 ++ B2).map V.bl)) g3
    have e3 : upd H2 t3 (.lst ((B1 ++ B2).map V.bl)) t3 = _ := upd_same
    generalize upd H2 t3 _ = H3 at *
    walk_at "goz"
    refine ⟨.ref (cl "NoLine"), .ref (cl "NoLine"), _, rfl, fun u z => z, ki "NoLine" (by decide), ?_⟩
    walk_at "goz"
    refine ⟨.ref (cl "TooMuch"), .ref (cl "TooMuch"), _, rfl, fun u z => z, ki "TooMuch" (by decide), ?_⟩
    walk_at "goz"
    refine ⟨.ref (cl "NothingDone"), .ref (cl "NothingDone"), _, rfl, fun u z => z, ki "NothingDone" (by decide), ?_⟩
    walk_at "goz"
    generalize hb4 : [decide (n = "NoLine"), decide (n = "TooMuch"), decide (n = "NothingDone")] = B4 at ct
    intro t4 g4
    have s4 := same_new (o := .lst [V.bl (decide (n = "NoLine")), .bl (decide (n = "TooMuch")), .bl (decide (n = "NothingDone"))]) g4
    have e4 : upd H3 t4 (.lst [V.bl (decide (n = "NoLine")), .bl (decide (n = "TooMuch")), .bl (decide (n = "NothingDone"))]) t4 = some (.lst (B4.map V.bl)) := by rw [← hb4]; exact upd_same
    have l4 : B4.length = 3 := by rw [← hb4]; rfl
    have f3 := s4 _ _ e3
    generalize upd H3 t4 _ = H4 at *
    walk_at "goz"
    refine ⟨_, _, _, _, rfl, rfl, f3, e4, Evl.sz_of (by simp; omega), fun t5 g5 => ?_⟩
    rw [← List.map_append]
    have s5 := same_new (o := .lst ((B1 ++ B2 ++ B4).map V.bl)) g5
    have e5 : upd H4 t5 (.lst ((B1 ++ B2 ++ B4).map V.bl)) t5 = _ := upd_same
    generalize upd H4 t5 _ = H5 at *
    walk_at "goz"
    refine ⟨.ty "ValueError", .type "ValueError", true, rfl, fun u z => z, E10.v n hn, ?_⟩
    walk_at "goz"
    refine ⟨.inl ⟨rfl, _, SqL.of e5⟩, ?_⟩
    walk_at "goz"
    refine ⟨t5, _, true, rfl, rfl, SqL.of e5, ?_⟩
    rw [ct]
    walk_at "goz"
    show Q (.bl (decide (V.int ((1 : Nat) : Int) = V.int 1))) H5
    rw [show decide (V.int ((1 : Nat) : Int) = V.int 1) = true from decide_eq_true rfl]
    exact q H5 (((s1.trans s2).trans s3).trans (s4.trans s5))
end
section
variable {P : Program} {w : World} {K : PySem.W.Frag} {mg : Str → Option Value} {base : Heap} {CL CO CB : Addr}
theorem isi_of {C : Addr} {m : Str} {H : Hp} {x : V} (h : IsB C H x) (hm : m ∈ bookMs) : IsI C m H x := by
  obtain ⟨a, dx, fs, e1, e2, l⟩ := h
  exact ⟨a, dx, fs, e1, e2, l m hm⟩
abbrev N_nothing : List Str := ["_law_book", "_law_refused", "_law_e"]
abbrev P_nothing : List Str := ["_law_book"]
theorem sc_nothing : FnScope N_nothing P_nothing (defScope s_nothing) := ⟨rfl, rfl, rfl, by decide +kernel, rfl, by decide +kernel, by decide +kernel⟩
def sp_nothing (R : BRep) : Sp := fun vs H Q _ => ∃ fp b, vs = [.ref b] ∧ R.Rep fp H b ⟨[], []⟩ ∧ ∀ H' fp', Bw fp H fp' H' → Q (.bl true) H'
theorem c_nothing {cl : Str → Addr} {cF : Addr} (T : Blt mg) (NDg : mg "NothingDone" = some (.ref (cl "NothingDone"))) (NDx : PySem.W.exmOne K (.ref (cl "NothingDone")) (.ref (cl "NothingDone")) = some true) (EF : FlowE K mg cl cF ["NothingDone"])
    (B_undo : BCal P w K mg base 8 CB "undo" P_Book_undo (sp_undo2 (theR K CL CO CB) K cl)) (MN_Book_undo : MCal P w K mg base (L2N.CX P w) 8 CB "undo" P_Book_undo (sp_undo2 (theR K CL CO CB) K cl))
    (h_Book_do : MCalH P w K mg base 8 CB "do" P_Book_do (hsp_do (theR K CL CO CB) K)) (h_Book_undo : MCalH P w K mg base 8 CB "undo" P_Book_undo (hsp_undo (theR K CL CO CB))) (h_Book_orders : MCalH P w K mg base 8 CB "orders" P_Book_orders (sp_orders (theR K CL CO CB)))
    (c_of_one_class : CalE P w K mg base 1 "_law_of_one_class" P_of_one_class (sp_one cl ["NothingDone"])) (D : DefAt K mg "_law_nothing" s_nothing P_nothing) : Cal P w K mg base CX0 9 "_law_nothing" P_nothing (sp_nothing (theR K CL CO CB)) := by
  refine cal_of D sc_nothing (fun vs H Q E h => ?_) (fun f cdv A outer s H vs Q E hr h => ?_)
  · obtain ⟨fp, b, rfl, _⟩ := h
    rfl
  · obtain ⟨fp, b, rfl, r, q⟩ := h
    refine ⟨_, (pss_cons (ps_set (i := 1) sc_nothing.nd rfl (Or.inl rfl) pe_bl)
      (pss_cons (ps_try_many rfl rfl takes0 (fun W pn xe tk _ => (pss_one (ps_expr (pe_bkS0 B_undo (pv 0) (hr.mono (by decide)) (fun σ => passAt tk σ)))))
        (.cons ⟨by rfl, by decide, .inl NDg⟩ (fun _ _ _ _ _ _ _ => (pss_one (ps_set (i := 1) sc_nothing.nd rfl (Or.inl rfl) pe_bl)))
        .nil))
      (pss_cons (L2N.ps_try_as (i := 2) rfl rfl sc_nothing.nd rfl rfl ⟨by rfl, by decide, .inl (EF.g "FlowError" (by decide))⟩ takesN0 (fun W pn xe tk _ => (pss_one (ps_expr (pe_mSN0 MN_Book_undo (pv 0) (hr.mono (by decide)) (fun σ => L2N.passAt tk σ)))))
        (fun a oe cls d pn hz hf => (pss_cons (ps_expr (pe_mH h_Book_do (pv 0) (L2H.roomH_mark (hr.mono (by decide)) _) (hot_suite hz hf) (pa_cons (pe_tup (pa_cons pe_str (pa_cons (pe_lst (pa_cons (pe_tup (pa_cons pe_str (pa_cons pe_int (pa_cons pe_int (pa_cons pe_int pa_nil))))) pa_nil)) pa_nil))) pa_nil)))
        (pss_one (ps_ret (pe_and (pv 1) (pe_and (pe_calE c_of_one_class (hr.mono (by decide)) hz.zc hf (pa_cons (pv 2) pa_nil)) (pe_and (pe_cmpR op_eq (pe_ix (kx_tup K) (pe_m0H h_Book_undo (pv 0) (L2H.roomH_mark (hr.mono (by decide)) _) (hot_suite hz hf)) pe_int (fun _ _ => rfl)) pe_str (nomark _)) (pe_one (pe_cmpR op_eq (pe_m0H h_Book_orders (pv 0) (L2H.roomH_mark (hr.mono (by decide)) _) (hot_suite hz hf)) pe_int (nomark _)))))))))))
      (pss_one (ps_ret pe_bl))))), ?_⟩
    have u0 : ∀ (d : Deed) (M : List Od) (rest : List (Deed × List Od)), (⟨[], []⟩ : BS).past = (d, M) :: rest → False := fun _ _ _ e => nomatch e
    walk_at "goz"
    refine ⟨(theR K CL CO CB).ins r, fp, b, ⟨[], []⟩, rfl, r, Nat.zero_le _, fun d M rest e => (u0 d M rest e).elim, fun _ H1 fp1 g1 k1 r1 => ?_⟩
    refine ⟨true, NDx, fun _ a _ => ?_, fun z => nomatch z⟩
    walk_at "goz"
    refine ⟨isi_of ((theR K CL CO CB).ins r1) (by decide), fp1, b, ⟨[], []⟩, rfl, r1, Nat.zero_le _, fun d M rest e => (u0 d M rest e).elim, fun _ H2 fp2 g2 k2 r2 => ?_⟩
    refine ⟨true, EF.x "NothingDone" (by decide), fun _ a2 na2 => ?_, fun z => nomatch z⟩
    walk_at "goz"
    refine ⟨isi_of ((theR K CL CO CB).ins r2) (by decide), ?_⟩
    walk_at "goz"
    intro t1 h1
    walk_at "goz"
    intro l1 h2
    walk_at "goz"
    intro t2 h3
    walk_at "goz"
    have hf := (theR K CL CO CB).has r2
    have s1 : Same H2 _ := same_new (o := .tup [.str "pen", .int 1, .int 1, .int 1]) h1
    have s2 := s1.trans (same_new (o := .lst [.ref t1]) h2)
    have s3 := s2.trans (same_new (o := .tup [.str "order", .ref l1]) h3)
    have hf1 := hf.same s1
    have d1 := dp_tup_new hf h1 (K := K) (ds := [.str "pen", .int 1, .int 1, .int 1]) (.cons (.str _) (.cons (.int _) (.cons (.int _) (.cons (.int _) .nil))))
    have d2 := dp_lst_new hf1 h2 (.cons d1 .nil)
    have d3 := dp_tup_new (hf1.same (same_new h2)) h3 (.cons (.str "order") (.cons d2 .nil))
    have r3 := BRep.same r2 s3
    generalize upd (upd (upd H2 t1 (.tup [.str "pen", .int 1, .int 1, .int 1])) l1 (.lst [.ref t1])) t2 (.tup [.str "order", .ref l1]) = H3 at *
    have lg : refuseM [] (.ord [⟨"pen", 1, 1, 1⟩]) = "" := by decide +kernel
    have sm : (Deed.ord [⟨"pen", 1, 1, 1⟩]).Small := ⟨by decide, fun t ht => by rw [List.mem_singleton.mp ht]; exact ⟨by decide +kernel, by decide +kernel⟩⟩
    refine ⟨fp2, b, ⟨[], []⟩, .ref t2, [⟨"pen", 1, 1, 1⟩], rfl, r3, Nat.zero_le _, d3, sm, lg, fun H4 fp4 q4 xs4 g4 k4 r4 hq4 nq4 e4 d4 => ?_⟩
    walk_at "goz"
    refine ⟨"NothingDone", by decide, rfl, rfl, fun H5 s5 => ?_⟩
    have r5 := BRep.same r4 s5
    have eo : decide (V.str "order" = V.str "order") = true := decide_eq_true rfl
    walk_at "goz"
    refine ⟨isi_of ((theR K CL CO CB).ins r5) (by decide), fp4, b, _, _, _, _, rfl, r5, by show 1 ≤ 5000; decide, rfl, fun H6 t qq k6 r6 ht => ?_⟩
    have hT6 := SqT.of (K := K) ht
    have i0 : atI [V.str "order", V.ref qq] 0 = some (V.str "order") := atI_nat (j := 0) rfl
    walk_at "goz"
    refine ⟨isi_of ((theR K CL CO CB).ins r6) (by decide), _, b, _, rfl, r6, fun H7 fp7 g7 k7 r7 => ?_⟩
    walk_at "goz"
    have k6' : Bw fp4 H5 (fun x => fp4 x ∧ x ≠ qq) H6 := ⟨fun _ z => .inl z.1, k6⟩
    exact q _ _ ((((((((Bw.of g1 k1).trans (Bw.of g2 k2)).trans (Bw.same s3)).trans (Bw.of g4 k4)).trans (Bw.same s5)).trans k6').trans (Bw.of g7 k7)))
end
section
theorem Acc.new {K : PySem.W.Frag} {F : Addr → Prop} {H : Hp} {p : Addr} (h : H p = some (.lst [])) (hF : F p) : Acc K F (fun a => a = p) H p [] [] :=
  ⟨h, rfl, (fun k o m ho => by cases ho), ⟨fun _ => .top, rfl, (fun k o ho => by cases ho)⟩, ⟨rfl, (fun o ho => by cases ho)⟩, (fun a z => by rw [z]; exact hF)⟩
end
section
variable {P : Program} {w : World} {K : PySem.W.Frag} {mg : Str → Option Value} {base : Heap}
abbrev N_model_of : List Str := ["_law_deeds", "_law_orders", "_law_deed"]
abbrev P_model_of : List Str := ["_law_deeds"]
theorem sc_model_of : FnScope N_model_of P_model_of (defScope s_model_of) := ⟨rfl, rfl, rfl, by decide +kernel, rfl, by decide +kernel, by decide +kernel⟩
def sp_model_of (K : PySem.W.Frag) : Sp := fun vs H Q _ => ∃ (a : Addr) (ds : List Deed), vs = [.ref a] ∧ Dp K H (.ref a) (.list (ds.map deedD)) ∧ Legs B0 ds ∧ ds.length ≤ 100 ∧
  ∀ H' F own p os, Same H H' → (∀ x, F x → H x = none) → Mut F H' → Acc K F own H' p os (ds.foldl BS.did B0).M → Q (.ref p) H'
theorem c_model_of (T : Blt mg) (c_step : Cal P w K mg base CX0 3 "_law_step" P_step (sp_step K)) (D : DefAt K mg "_law_model_of" s_model_of P_model_of) : Cal P w K mg base CX0 4 "_law_model_of" P_model_of (sp_model_of K) := by
  refine cal_of D sc_model_of (fun vs H Q E h => ?_) (fun f cdv A outer s H vs Q E hr h => ?_)
  · obtain ⟨a, ds, rfl, _⟩ := h
    rfl
  · obtain ⟨a, ds, rfl, dd, L, dz, q⟩ := h
    refine ⟨_, (pss_cons (ps_set (i := 1) sc_model_of.nd rfl (Or.inl rfl) (pe_lst pa_nil))
      (pss_cons (ps_for PassesOwn.never rfl (ki_list K (pv 0)) (pg_name (i := 2) sc_model_of.nd rfl (Or.inl rfl))
        (pss_one (ps_expr (pe_cal c_step (hr.mono (by decide)) pass0 (pa_cons (pv 2) (pa_cons (pv 1) pa_nil))))))
      (pss_one (ps_ret (pv 1))))), ?_⟩
    obtain ⟨a', xs, e, hx, dx⟩ := dp_list dd
    cases e
    have xl := dx.length
    rw [List.length_map] at xl
    walk_at "goz"
    intro p hp
    walk_at "goz"
    have s1 : Same H _ := same_new (o := .lst []) hp
    have e1 : upd H p (.lst []) p = some (.lst []) := upd_same
    generalize upd H p (.lst []) = H1 at *
    have hx1 := same_l s1 hx
    walk_at "goz"
    refine ⟨⟨_, hx1⟩, ?_⟩
    refine for_list (K := K) (a := a) (xs := xs) (fun i σ H' => ∃ v F own os, σ = [some (.ref a), some (.ref p), v] ∧ Same H H' ∧ (∀ x, F x → H x = none) ∧ Mut F H' ∧ Acc K F own H' p os ((ds.take i).foldl BS.did B0).M)
      ⟨none, fun x => x = p, fun x => x = p, [], rfl, s1, (fun x z => by rw [z]; exact hp), (fun x z => by rw [z]; exact ⟨_, e1, tupO_lst⟩), Acc.new e1 rfl⟩ (fun i σ H' _ ⟨_, _, _, _, _, s, _⟩ => same_l s hx) ?_ ?_
    · rintro i x σ H2 hxi ⟨v, F, own, os, rfl, s2, nw, m, A2⟩
      obtain ⟨e, he, de⟩ := dx.got hxi
      rw [List.getElem?_map] at he
      cases ed : ds[i]? with
      | none => rw [ed] at he; cases he
      | some d =>
      rw [ed] at he
      have he := Option.some.inj he
      subst he
      obtain ⟨sh, lo, rn, _⟩ := legs_at L ed
      have Lt : Legs B0 (ds.take i) := legs_take L
      obtain ⟨W, rl, ml, _⟩ := legs0 Lt
      have tl : (ds.take i).length ≤ 100 := by rw [List.length_take]; omega
      rw [take_succ' ed, List.foldl_append]
      generalize (ds.take i).foldl BS.did B0 = S2 at *
      have so : Same H (off F H2) := fun y o ey => by
        rw [off_out fun z => by rw [nw y z] at ey; cases ey]
        exact s2 y o ey
      walk_at "goz"
      refine ⟨F, own, p, os, S2.M, x, d, rfl, A2, W, m, de.same so, sh, lo, rn, by omega, rl.mono' (by omega), fun H3 F3 own3 os3 r g3 m3 k3 A3 _ => ?_⟩
      walk_at "goz"
      refine ⟨_, _, _, _, rfl, fun y o ey => (k3 y o (s2 y o ey)).1 fun z => ?_, fun y z => (g3.nf y z).elim (nw y) fun z => none_back s2 z, m3, A3⟩
      rw [nw y (A2.sub y z)] at ey
      cases ey
    · rintro σ H2 ⟨v, F, own, os, rfl, s2, nw, m, A2⟩
      rw [xl, List.take_length] at A2
      walk_at "goz"
      exact q _ _ _ _ _ s2 nw m A2
abbrev N_stands : List Str := ["_law_book", "_law_orders", "_law_at"]
abbrev P_stands : List Str := ["_law_book", "_law_orders"]
theorem sc_stands : FnScope N_stands P_stands (defScope s_stands) := ⟨rfl, rfl, rfl, by decide +kernel, rfl, by decide +kernel, by decide +kernel⟩
def sp_stands (R : BRep) (K : PySem.W.Frag) : Sp := fun vs H Q _ => ∃ (F fp own : Addr → Prop) (b p : Addr) (S : BS) (os : List OA), vs = [.ref b, .ref p] ∧ Pr R K F fp own H b S p os ∧ S.M.length ≤ 1000 ∧ S.past.length ≤ 5000 ∧
  ∀ H' F' fp', Bw fp H fp' H' → Pr R K F' fp' own H' b S p os → Q (.bl true) H'
theorem c_stands (T : Blt mg) {R : BRep} {cl : Str → Addr} {p1 p2 p3 p4 : List Str} (c_whole : Cal P w K mg base CX0 1 "_law_whole" P_whole sp_whole) (c_pairs_alike : Cal P w K mg base CX0 2 "_law_pairs_alike" P_pairs_alike (sp_pairs_alike K))
    (c_lines_told : Cal P w K mg base CX0 1 "_law_lines_told" P_lines_told (sp_lines_told K)) (c_owed_by : Cal P w K mg base CX0 2 "_law_owed_by" P_owed_by (sp_owed_by K))
    (B_orders : BCal P w K mg base 8 R.C "orders" p1 (sp_orders R)) (B_told : BCal P w K mg base 8 R.C "told" p2 (sp_told R K cl)) (B_paid : BCal P w K mg base 8 R.C "paid" p3 (sp_paid R cl)) (B_owed : BCal P w K mg base 8 R.C "owed" p4 (sp_owed R cl))
    (D : DefAt K mg "_law_stands" s_stands P_stands) : Cal P w K mg base CX0 9 "_law_stands" P_stands (sp_stands R K) := by
  refine cal_of D sc_stands (fun vs H Q E h => ?_) (fun f cdv A outer s H vs Q E hr h => ?_)
  · obtain ⟨F, fp, own, b, p, S, os, rfl, _⟩ := h
    rfl
  · obtain ⟨F, fp, own, b, p, S, os, rfl, pr, mz, pz, q⟩ := h
    refine ⟨_, (pss_cons (ps_if (PW.pt (pw_or (pt_not (pt_val (pe_cal c_whole (hr.mono (by decide)) pass0 (pa_cons (pe_bk0 B_orders (pv 0) (hr.mono (by decide))) pa_nil)))) (pw_or1 (pt_cmpR op_ne (pe_bk0 B_orders (pv 0) (hr.mono (by decide))) (pe_callB (kc_len K) (by rfl) T.m_len PySem.boot_len (pa_cons (pv 1) pa_nil)) (nomark _)))))
        (pss_one (ps_ret pe_bl))
        pss_nil)
      (pss_cons (ps_for PassesOwn.never rfl (pi_range1 (by rfl) T.m_range (pa_cons (pe_callB (kc_len K) (by rfl) T.m_len PySem.boot_len (pa_cons (pv 1) pa_nil)) pa_nil)) (pg_name (i := 2) sc_stands.nd rfl (Or.inl rfl))
        (pss_cons (ps_if (pt_not (pt_val (pe_cal c_pairs_alike (hr.mono (by decide)) pass0 (pa_cons (pe_bk B_told (pv 0) (hr.mono (by decide)) (pa_cons (pv 2) pa_nil)) (pa_cons (pe_cal c_lines_told (hr.mono (by decide)) pass0 (pa_cons (pe_ix (kx_list K) (pv 1) (pv 2) (fun _ _ => rfl)) pa_nil)) pa_nil)))))
          (pss_one (ps_ret pe_bl))
          pss_nil)
        (pss_cons (ps_if (PW.pt (pw_or (pt_not (pt_val (pe_cal c_whole (hr.mono (by decide)) pass0 (pa_cons (pe_bk B_paid (pv 0) (hr.mono (by decide)) (pa_cons (pv 2) pa_nil)) pa_nil)))) (pw_or1 (pt_cmpR op_ne (pe_bk B_paid (pv 0) (hr.mono (by decide)) (pa_cons (pv 2) pa_nil)) (pe_ix (kx_list K) (pe_ix (kx_list K) (pv 1) (pv 2) (fun _ _ => rfl)) pe_int (fun _ _ => rfl)) (nomark _)))))
          (pss_one (ps_ret pe_bl))
          pss_nil)
        (pss_one (ps_if (PW.pt (pw_or (pt_not (pt_val (pe_cal c_whole (hr.mono (by decide)) pass0 (pa_cons (pe_bk B_owed (pv 0) (hr.mono (by decide)) (pa_cons (pv 2) pa_nil)) pa_nil)))) (pw_or1 (pt_cmpR op_ne (pe_bk B_owed (pv 0) (hr.mono (by decide)) (pa_cons (pv 2) pa_nil)) (pe_cal c_owed_by (hr.mono (by decide)) pass0 (pa_cons (pe_ix (kx_list K) (pv 1) (pv 2) (fun _ _ => rfl)) pa_nil)) (nomark _)))))
          (pss_one (ps_ret pe_bl))
          pss_nil)))))
      (pss_one (ps_ret pe_bl)))), ?_⟩
    have len : (os.map fun o => V.ref o.a).length = S.M.length := by rw [List.length_map, pr.acc.len]
    have el : decide (V.int (S.M.length : Int) = V.int ((os.map fun o => V.ref o.a).length : Int)) = true := decide_eq_true (by rw [len])
    walk_at "goz"
    refine ⟨R.ins pr.rep, fp, b, S, rfl, pr.rep, fun H1 fp1 g1 k1 r1 => ?_⟩
    have pr1 := pr.call g1 k1 r1
    walk_at "goz"
    refine ⟨R.ins pr1.rep, fp1, b, S, rfl, pr1.rep, fun H2 fp2 g2 k2 r2 => ?_⟩
    have pr2 := pr1.call g2 k2 r2
    have w2 := (Bw.of g1 k1).trans (Bw.of g2 k2)
    have hT2 := SqL.of (K := K) pr2.acc.top
    walk_at "goz"
    rw [len, Int.toNat_natCast]
    refine for_range (lo := 0) (n := S.M.length) (fun i σ H' => ∃ F' fp' v, σ = [some (.ref b), some (.ref p), v] ∧ Bw fp H fp' H' ∧ Pr R K F' fp' own H' b S p os)
      ⟨_, _, none, rfl, w2, pr2⟩ ?_ ?_
    · rintro i σ H0 hi ⟨F0, fp0, v, rfl, w0, pr0⟩
      have z0 : (0 : Int) + (i : Int) = (i : Int) := Int.zero_add _
      rw [z0]
      have ir : inR (i : Int) S.M.length = true := inR_iff.mpr ⟨by omega, by omega⟩
      have no : ∀ {A : Prop}, inR (i : Int) S.M.length = false → A := fun z => by rw [ir] at z; cases z
      have ok := pr.wf.at_ (n := (i : Int)) (by omega) (by omega)
      obtain ⟨oa, ho, hat, hm, _⟩ := pr.acc.at_ (n := (i : Int)) (by omega) (by omega)
      have f2 := told_flat ok
      walk_at "goz"
      refine ⟨R.ins pr0.rep, _, rfl, fp0, b, S, _, rfl, pr0.rep, by omega, fun _ H1 fp1 q1 xs1 g1 k1 r1 hq1 nq1 e1 d1 => ?_, no⟩
      have pr1 := pr0.call g1 k1 r1
      have d1 := d1.same off_same
      have hT1 := SqL.of (K := K) pr1.acc.top
      have O1 := pr1.acc.od _ _ _ ho hm
      walk_at "goz"
      refine ⟨_, _, oa, _, rfl, O1, ok, pr1.mt.has, fun H2 q2 xs2 s2 hq2 e2 d2 => ?_⟩
      have pr2 := pr1.same s2
      walk_at "goz"
      refine ⟨q1, q2, xs1, xs2, _, rfl, SqL.of (s2 _ _ e1), SqL.of e2, d1.same s2, d2.same off_same, by have := ok.le; rw [List.length_map]; omega, f2, ?_⟩
      have ep : decide (V.int (ordAt S.M (i : Int)).paid = V.int (ordAt S.M (i : Int)).paid) = true := decide_eq_true rfl
      have eo : decide (V.int (ordAt S.M (i : Int)).owed = V.int (ordAt S.M (i : Int)).owed) = true := decide_eq_true rfl
      walk_at "goz"
      refine ⟨R.ins pr2.rep, _, rfl, _, b, S, _, rfl, pr2.rep, fun _ H4 fp4 g4 k4 r4 => ?_, no⟩
      have pr4 := pr2.call g4 k4 r4
      walk_at "goz"
      refine ⟨R.ins pr4.rep, _, rfl, _, b, S, _, rfl, pr4.rep, fun _ H5 fp5 g5 k5 r5 => ?_, no⟩
      have pr5 := pr4.call g5 k5 r5
      have hT5 := SqL.of (K := K) pr5.acc.top
      have hO5 := SqL.of (K := K) (pr5.acc.od _ _ _ ho hm).hd
      walk_at "goz"
      refine ⟨R.ins pr5.rep, _, rfl, _, b, S, _, rfl, pr5.rep, fun _ H6 fp6 g6 k6 r6 => ?_, no⟩
      have pr6 := pr5.call g6 k6 r6
      walk_at "goz"
      refine ⟨R.ins pr6.rep, _, rfl, _, b, S, _, rfl, pr6.rep, fun _ H7 fp7 g7 k7 r7 => ?_, no⟩
      have pr7 := pr6.call g7 k7 r7
      have hT7 := SqL.of (K := K) pr7.acc.top
      walk_at "goz"
      refine ⟨_, oa, ordAt S.M (i : Int), rfl, pr7.acc.od _ _ _ ho hm, ok, fun H8 s8 => ?_⟩
      walk_at "goz"
      have wA := (((((((w0.trans (Bw.of g1 k1)).trans (Bw.same s2)).trans (Bw.of g4 k4)).trans (Bw.of g5 k5)).trans (Bw.of g6 k6)).trans (Bw.of g7 k7)).trans (Bw.same s8))
      exact ⟨_, _, _, rfl, wA, pr7.same s8⟩
    · rintro σ H0 ⟨F0, fp0, v, rfl, w0, pr0⟩
      walk_at "goz"
      exact q _ _ _ w0 pr0
abbrev N_stands_by : List Str := ["_law_book", "_law_deeds", "_law_orders", "_law_at", "_law_found", "_law_row"]
abbrev P_stands_by : List Str := ["_law_book", "_law_deeds"]
theorem sc_stands_by : FnScope N_stands_by P_stands_by (defScope s_stands_by) := ⟨rfl, rfl, rfl, by decide +kernel, rfl, by decide +kernel, by decide +kernel⟩
def sp_stands_by (R : BRep) (K : PySem.W.Frag) : Sp := fun vs H Q _ => ∃ (fp : Addr → Prop) (b a : Addr) (ds : List Deed), vs = [.ref b, .ref a] ∧ R.Rep fp H b (ds.foldl BS.did B0) ∧ Dp K H (.ref a) (.list (ds.map deedD)) ∧ Legs B0 ds ∧ ds.length ≤ 100 ∧
  ∀ H' fp', Bw fp H fp' H' → R.Rep fp' H' b (ds.foldl BS.did B0) → Q (.bl true) H'
theorem c_stands_by (T : Blt mg) {R : BRep} {cl : Str → Addr} {p1 p3 : List Str} (c_model_of : Cal P w K mg base CX0 4 "_law_model_of" P_model_of (sp_model_of K)) (c_stands : Cal P w K mg base CX0 9 "_law_stands" P_stands (sp_stands R K)) (c_rows_alike : Cal P w K mg base CX0 2 "_law_rows_alike" P_rows_alike (sp_rows_alike K))
    (c_matched_well : Cal P w K mg base CX0 3 "_law_matched_well" P_matched_well (sp_matched_well K)) (B_rows : BCal P w K mg base 8 R.C "rows" p1 (sp_rows R K cl)) (B_settled : BCal P w K mg base 8 R.C "settled" p3 (sp_settled R K cl))
    (D : DefAt K mg "_law_stands_by" s_stands_by P_stands_by) : Cal P w K mg base CX0 10 "_law_stands_by" P_stands_by (sp_stands_by R K) := by
  refine cal_of D sc_stands_by (fun vs H Q E h => ?_) (fun f cdv A outer s H vs Q E hr h => ?_)
  · obtain ⟨fp, b, a, ds, rfl, _⟩ := h
    rfl
  · obtain ⟨fp, b, a, ds, rfl, r, dd, L, dz, q⟩ := h
    refine ⟨_, (pss_cons (ps_set (i := 2) sc_stands_by.nd rfl (Or.inl rfl) (pe_cal c_model_of (hr.mono (by decide)) pass0 (pa_cons (pv 1) pa_nil)))
      (pss_cons (ps_if (pt_not (pt_val (pe_cal c_stands (hr.mono (by decide)) pass0 (pa_cons (pv 0) (pa_cons (pv 2) pa_nil)))))
        (pss_one (ps_ret pe_bl))
        pss_nil)
      (pss_cons (ps_for PassesOwn.never rfl (pi_range1 (by rfl) T.m_range (pa_cons (pe_callB (kc_len K) (by rfl) T.m_len PySem.boot_len (pa_cons (pv 2) pa_nil)) pa_nil)) (pg_name (i := 3) sc_stands_by.nd rfl (Or.inl rfl))
        (pss_cons (ps_if (pt_not (pt_val (pe_cal c_rows_alike (hr.mono (by decide)) pass0 (pa_cons (pe_bk B_rows (pv 0) (hr.mono (by decide)) (pa_cons (pv 3) pa_nil)) (pa_cons (pe_ix (kx_list K) (pe_ix (kx_list K) (pv 2) (pv 3) (fun _ _ => rfl)) pe_int (fun _ _ => rfl)) pa_nil)))))
          (pss_one (ps_ret pe_bl))
          pss_nil)
        (pss_cons (ps_set (i := 4) sc_stands_by.nd rfl (Or.inl rfl) (pe_bk B_settled (pv 0) (hr.mono (by decide)) (pa_cons (pv 3) pa_nil)))
        (pss_one (ps_if (PW.pt (pw_or (pt_not (pt_val (pe_callB (kc_isi K) (by rfl) T.m_isinstance (by decide +kernel) (pa_cons (pv 4) (pa_cons (pe_bltn (v := .ty "list") (by rfl) T.m_list PyProof.Rows.boot_list rfl) pa_nil))))) (pw_or1 (pt_not (pt_val (pe_cal c_matched_well (hr.mono (by decide)) pass0 (pa_cons (pe_lc (own := [("_law_row", 5)]) (g := gName 5) (tt := tYes) rfl sc_stands_by.nd (ki_list K (pe_ix (kx_list K) (pe_ix (kx_list K) (pv 2) (pv 3) (fun _ _ => rfl)) pe_int (fun _ _ => rfl))) (blkOk_by (N := N_stands_by) (sc := defScope s_stands_by) (by decide +kernel)) (fun _ _ _ _ _ => pg_name (i := 5) sc_stands_by.nd rfl (Or.inl rfl)) (fun _ _ _ _ _ => pts_nil) (fun _ _ _ _ _ => (pe_ix (kx_tup K) (pv 5) pe_int (fun _ _ => rfl)))) (pa_cons (pv 4) pa_nil))))))))
          (pss_one (ps_ret pe_bl))
          pss_nil)))))
      (pss_one (ps_ret pe_bl))))), ?_⟩
    obtain ⟨W, rl, ml, pl⟩ := legs0 L
    walk_at "goz"
    refine ⟨a, ds, rfl, dd, L, dz, fun H1 F own p os s1 nw m A1 => ?_⟩
    generalize ds.foldl BS.did B0 = S at *
    have r1 := BRep.same r s1
    have ex : ∀ x, fp x → H x ≠ none := fun x z => (R.mt r).has x z
    have mt1 : Mut (fun x => F x ∨ fp x) H1 := fun x z => z.elim (m x) (R.mt r1 x)
    have pr1 : Pr R K (fun x => F x ∨ fp x) fp own H1 b S p os := ⟨r1, A1.wide W mt1 fun x z => .inl (A1.sub x z), W, fun x z => .inr z, fun x z z2 => ex x z (nw x (A1.sub x z2)), mt1⟩
    walk_at "goz"
    refine ⟨_, fp, own, b, p, S, os, rfl, pr1, by omega, by omega, fun H2 F2 fp2 w2 pr2 => ?_⟩
    have w02 := (Bw.same s1).trans w2
    have hT2 := SqL.of (K := K) pr2.acc.top
    have len : (os.map fun o => V.ref o.a).length = S.M.length := by rw [List.length_map, pr1.acc.len]
    walk_at "goz"
    rw [len, Int.toNat_natCast]
    refine for_range (lo := 0) (n := S.M.length) (fun i σ H' => ∃ F' fp' v v4, σ = [some (.ref b), some (.ref a), some (.ref p), v, v4, none] ∧ Bw fp H fp' H' ∧ Pr R K F' fp' own H' b S p os)
      ⟨_, _, none, none, rfl, w02, pr2⟩ ?_ ?_
    · rintro i σ H0 hi ⟨F0, fp0, v, v4, rfl, w0, pr0⟩
      have z0 : (0 : Int) + (i : Int) = (i : Int) := Int.zero_add _
      rw [z0]
      have ir : inR (i : Int) S.M.length = true := inR_iff.mpr ⟨by omega, by omega⟩
      have no : ∀ {A : Prop}, inR (i : Int) S.M.length = false → A := fun z => by rw [ir] at z; cases z
      have ok := pr1.wf.at_ (n := (i : Int)) (by omega) (by omega)
      obtain ⟨oa, ho, hat, hm, _⟩ := pr1.acc.at_ (n := (i : Int)) (by omega) (by omega)
      have rli := rl.ord (i : Int)
      have f1 := rows_flat ok.rw
      walk_at "goz"
      refine ⟨R.ins pr0.rep, _, rfl, fp0, b, S, _, rfl, pr0.rep, by omega, fun _ H1 fp1 q1 xs1 g1 k1 r1 hq1 nq1 e1 d1 => ?_, no⟩
      have prA := pr0.call g1 k1 r1
      have d1 := d1.same off_same
      have hT1 := SqL.of (K := K) prA.acc.top
      have O1 := prA.acc.od _ _ _ ho hm
      have hO1 := SqL.of (K := K) O1.hd
      obtain ⟨rs, hrs, drs⟩ := O1.hr
      walk_at "goz"
      refine ⟨q1, oa.rs, xs1, rs, _, rfl, SqL.of e1, SqL.of hrs, d1, drs.same off_same, ok.rw, ?_⟩
      walk_at "goz"
      refine ⟨R.ins prA.rep, _, rfl, _, b, S, _, rfl, prA.rep, by omega, fun _ H4 fp4 q4 xs4 g4 k4 r4 hq4 nq4 e4 d4 => ?_, no⟩
      have prB := prA.call g4 k4 r4
      have d4 : DpAll K H4 xs4 ((matchL ((ordAt S.M (i : Int)).rows.map fun r => r.2)).map triD) := d4.same off_same
      have hT4 := SqL.of (K := K) prB.acc.top
      have O4 := prB.acc.od _ _ _ ho hm
      have hO4 := SqL.of (K := K) O4.hd
      obtain ⟨rs4, hrs4, drs4⟩ := O4.hr
      have lr4 := drs4.length
      rw [List.length_map] at lr4
      walk_at "goz"
      refine ⟨_, _, _, _, _, rfl, .ty _, tyx_l (SqL.of e4), kit_ty (r := true) (by decide +kernel), ?_⟩
      walk_at "goz"
      refine ⟨⟨_, SqL.of hrs4⟩, fun D5 hD5 => ?_⟩
      refine lcD_list (K := K) (fp := fun _ => False) (((ordAt S.M (i : Int)).rows.map fun r => r.2).map PyData.int) (by simpa using lr4) (by rw [List.length_map, List.length_map]; omega) (SqL.of hrs4) hD5 has_none (fun i x d H8 Rk hx hd s8 _ kk => ?_) (fun H5 ys s5 hd5 r5 _ => ?_)
      · obtain ⟨dd, hdd, dp⟩ := drs4.got hx
        rw [List.getElem?_map] at hdd
        rw [List.getElem?_map, List.getElem?_map] at hd
        cases er : (ordAt S.M _).rows[i]? with
        | none => rw [er] at hd; cases hd
        | some r =>
          rw [er] at hd hdd
          have hd := Option.some.inj hd
          have hdd := Option.some.inj hdd
          subst hd hdd
          obtain ⟨t, u1, u2, rfl, ht, x1, x2⟩ := tup2 dp
          rw [dp_str x1, dp_int x2] at ht
          have ht8 := same_t (off_same.trans s8) ht
          walk_at "goz"
          exact kk _ _ (Same.refl _) (.int _)
      have hy := dpAll_ints_inv r5
      subst hy
      walk_at "goz"
      refine ⟨D5, .ref q4, (ordAt S.M (i : Int)).rows.map fun r => r.2, matchL ((ordAt S.M (i : Int)).rows.map fun r => r.2), rfl, SqL.of hd5, .lst (SqL.of (s5 _ _ e4)) (d4.same s5), by rw [List.length_map]; omega, Nat.le_trans (match_length _) (by rw [List.length_map]; omega), chk_match _, sum_match _, fun H6 s6 => ?_⟩
      walk_at "goz"
      exact ⟨_, _, _, _, rfl, ((((w0.trans (Bw.of g1 k1)).trans (Bw.of g4 k4)).trans (Bw.same s5)).trans (Bw.same s6)), (prB.same s5).same s6⟩
    · rintro σ H0 ⟨F0, fp0, v, v4, rfl, w0, pr0⟩
      walk_at "goz"
      exact q _ _ w0 pr0.rep
end
section
variable {P : Program} {w : World} {K : PySem.W.Frag} {mg : Str → Option Value} {base : Heap}
theorem alike_of {d : Deed} (sh : d.Shape) (lo : d.LinesOk) : AlikeD (deedD d) := by
  cases d with
  | ord ls => exact .inr ⟨ls, rfl, by have := lo.2.1; omega, fun t ht => (lo.2.2 t ht).str⟩
  | goods x o l n => exact .inl ⟨x, _, rfl, (goods_ne sh).1, deed_flat (d := .goods x o l n) sh fun _ z => nomatch z⟩
  | money x o n => exact .inl ⟨x, _, rfl, (money_ne sh).1, deed_flat (d := .money x o n) sh fun _ z => nomatch z⟩
  | move o l n => exact .inl ⟨"move", _, rfl, by decide +kernel, deed_flat (d := .move o l n) trivial fun _ z => nomatch z⟩
theorem dpAll_snoc {H : Hp} : ∀ {ds : List PyData} {d : PyData} {xs : List V}, DpAll K H xs (ds ++ [d]) → ∃ xs' x, xs = xs' ++ [x] ∧ DpAll K H xs' ds ∧ Dp K H x d
  | [], d, _, .cons h .nil => ⟨[], _, rfl, .nil, h⟩
  | _ :: ds, d, _, .cons h r => by
    obtain ⟨xs', x, rfl, h1, h2⟩ := dpAll_snoc (ds := ds) r
    exact ⟨_ :: xs', x, rfl, .cons h h1, h2⟩
theorem cut_last {xs : List V} {x : V} : cutV (xs ++ [x]) none (some (-1)) = xs := by
  unfold cutV
  have e : HT.sIx (xs ++ [x]).length (xs ++ [x]).length (some (-1)) = xs.length := by
    show (if (-1 : Int) < 0 then ((-1 : Int) + (((xs ++ [x]).length : Nat) : Int)).toNat else min ((-1 : Int)).toNat (xs ++ [x]).length) = _
    rw [if_pos (by decide), List.length_append]
    show (-1 + ((xs.length + 1 : Nat) : Int)).toNat = xs.length
    omega
  have z : HT.sIx (xs ++ [x]).length 0 none = 0 := rfl
  rw [e, z, List.drop_zero, Nat.sub_zero, List.take_append_of_le_length (Nat.le_refl _), List.take_length]
abbrev N_back : List Str := ["_law_book", "_law_deeds", "_law_found"]
abbrev P_back : List Str := ["_law_book", "_law_deeds"]
theorem sc_back : FnScope N_back P_back (defScope s_back) := ⟨rfl, rfl, rfl, by decide +kernel, rfl, by decide +kernel, by decide +kernel⟩
def sp_back (R : BRep) (K : PySem.W.Frag) : Sp := fun vs H Q _ => ∃ (fp : Addr → Prop) (b a : Addr) (ds : List Deed) (d : Deed), vs = [.ref b, .ref a] ∧ R.Rep fp H b ((ds ++ [d]).foldl BS.did B0) ∧ Dp K (off fp H) (.ref a) (.list ((ds ++ [d]).map deedD)) ∧ Legs B0 (ds ++ [d]) ∧ (ds ++ [d]).length ≤ 100 ∧
  ∀ H' fp', Bw fp H fp' H' → R.Rep fp' H' b (ds.foldl BS.did B0) → Q (.bl true) H'
theorem c_back (T : Blt mg) {R : BRep} {cl : Str → Addr} {p1 : List Str} (B_undo : BCal P w K mg base 8 R.C "undo" p1 (sp_undo2 R K cl)) (c_deed_alike : Cal P w K mg base CX0 3 "_law_deed_alike" P_deed_alike (sp_deed_alike K)) (c_stands_by : Cal P w K mg base CX0 10 "_law_stands_by" P_stands_by (sp_stands_by R K))
    (D : DefAt K mg "_law_back" s_back P_back) : Cal P w K mg base CX0 11 "_law_back" P_back (sp_back R K) := by
  refine cal_of D sc_back (fun vs H Q E h => ?_) (fun f cdv A outer s H vs Q E hr h => ?_)
  · obtain ⟨fp, b, a, ds, d, rfl, _⟩ := h
    rfl
  · obtain ⟨fp, b, a, ds, d, rfl, r, dd, L, dz, q⟩ := h
    refine ⟨_, (pss_cons (ps_set (i := 2) sc_back.nd rfl (Or.inl rfl) (pe_bk0 B_undo (pv 0) (hr.mono (by decide))))
      (pss_cons (ps_if (pt_not (pt_val (pe_cal c_deed_alike (hr.mono (by decide)) pass0 (pa_cons (pv 2) (pa_cons (pe_ix (kx_list K) (pv 1) (pe_op op_sub (pe_callB (kc_len K) (by rfl) T.m_len PySem.boot_len (pa_cons (pv 1) pa_nil)) pe_int) (fun _ _ => rfl)) pa_nil)))))
        (pss_one (ps_ret pe_bl))
        pss_nil)
      (Evl.pss_cut (ps_if (pt_cmpR op_eq (pe_ix (kx_tup K) (pv 2) pe_int (fun _ _ => rfl)) pe_str (nomark _))
        (pss_one (ps_expr (pe_bm PySem.F.plainAttrs_list PySem.F.slot_list_append PySem.F.type_list_append mt_append (pe_ix (kx_tup K) (pv 2) pe_int (fun _ _ => rfl)) (pa_cons (pe_tup (pa_cons pe_str (pa_cons pe_int (pa_cons pe_int (pa_cons pe_int pa_nil))))) pa_nil))))
        pss_nil)
      (pss_one (ps_ret (pe_cal c_stands_by (hr.mono (by decide)) pass0 (pa_cons (pv 0) (pa_cons (pe_slice (ks_list K) (pv 1) po_none (po_some (pe_un un_neg pe_int))) pa_nil)))))))), ?_⟩
    have L0 := legs_init L
    obtain ⟨_, _, _, pl⟩ := legs0 L
    obtain ⟨sh, lo, _⟩ := legs_at (n := ds.length) L (by rw [List.getElem?_append_right (Nat.le_refl _), Nat.sub_self]; rfl)
    have dz0 : ds.length ≤ 100 := by rw [List.length_append] at dz; omega
    rw [List.foldl_append] at r pl
    have dd0 := dd
    rw [List.map_append] at dd
    obtain ⟨a', xs, e, hx, dx⟩ := dp_list dd
    cases e
    obtain ⟨xs', x, rfl, dxs, dxd⟩ := dpAll_snoc dx
    have lx := dxs.length
    rw [List.length_map] at lx
    have hx0 := same_l off_same hx
    have al := alike_of sh lo
    have ix : atI (xs' ++ [x]) ((((xs' ++ [x]).length : Nat) : Int) - 1) = some x := by
      rw [List.length_append, show (((xs'.length + [x].length : Nat) : Int) - 1) = ((xs'.length : Nat) : Int) by show ((xs'.length + 1 : Nat) : Int) - 1 = _; omega]
      exact atI_nat (by rw [List.getElem?_append_right (Nat.le_refl _), Nat.sub_self]; rfl)
    generalize hS : ds.foldl BS.did B0 = S at *
    have r : R.Rep fp H b (S.did d) := r
    walk_at "goz"
    refine ⟨R.ins r, fp, b, S.did d, rfl, r, by show (S.did d).past.length ≤ 5000; have : (S.did d).past.length = (ds ++ [d]).length := pl; omega, fun d' M' rest' e => ?_, fun e => nomatch e⟩
    cases e
    refine ⟨fun no H1 v k1 r1 dv => ?_, fun ls e H1 t qq xs1 k1 fq r1 ht hq dq => ?_⟩
    · have w1 : Bw fp H fp H1 := ⟨fun _ z => .inl z, k1⟩
      have hx1 := same_l (w1.off.trans off_same) hx
      have dx1 := (dxd.same w1.off).same off_same
      walk_at "goz"
      refine ⟨v, x, deedD d, rfl, dv.same off_same, dx1, al, ?_⟩
      obtain ⟨bb, o, rest, rfl, hb0, nw, _⟩ := deed_gen dv sh no
      have hb := same_t off_same hb0
      have e1 := dec_str_no nw
      have i0 : atI (V.str d.word :: V.int o :: rest) 0 = some (V.str d.word) := atI_nat (j := 0) rfl
      walk_at "goz"
      refine ⟨fun σ H' => σ = [some (.ref b), some (.ref a), some (.ref bb)] ∧ ∃ fp', Bw fp H fp' H' ∧ R.Rep fp' H' b S, ?_, ?_⟩
      · walk_at "goz"
        exact ⟨fp, w1, r1⟩
      rintro σ H2 ⟨rfl, fp2, w2, r2⟩
      have hx2 := same_l (w2.off.trans off_same) hx
      walk_at "goz"
      refine ⟨a, _, rfl, hx2, ?_⟩
      rw [cut_last]
      intro p hp
      have s3 : Same H2 _ := same_new (o := .lst xs') hp
      have ep : upd H2 p (.lst xs') p = some (.lst xs') := upd_same
      have r3 := BRep.same r2 s3
      have dx3 := ((dxs.same w2.off).same off_same).same s3
      have w3 := w2.trans (Bw.same (fp := fp2) s3)
      generalize upd H2 p (.lst xs') = H3 at *
      rw [← hS] at r3
      refine ⟨fp2, b, p, ds, rfl, r3, .lst (SqL.of ep) dx3, L0, dz0, fun H4 fp4 w4 r4 => ?_⟩
      rw [hS] at r4
      exact q _ _ (w3.trans w4) r4
    · have w1 : Bw fp H (fun x => fp x ∧ x ≠ qq) H1 := ⟨fun _ z => .inl z.1, k1⟩
      cases e
      have hx1 := same_l (w1.off.trans off_same) hx
      have dx1 := (dxd.same w1.off).same off_same
      have dt1 : Dp K H1 (.ref t) (deedD (.ord ls)) := .tup (SqT.of ht) (.cons (.str _) (.cons (.lst (SqL.of hq) (dq.same off_same)) .nil))
      have hT1 := SqT.of (K := K) ht
      walk_at "goz"
      refine ⟨.ref t, x, deedD (.ord ls), rfl, dt1, dx1, al, ?_⟩
      have e1 : decide (V.str "order" = V.str "order") = true := decide_eq_true rfl
      have i0 : atI [V.str "order", V.ref qq] 0 = some (V.str "order") := atI_nat (j := 0) rfl
      have i1 : atI [V.str "order", V.ref qq] 1 = some (V.ref qq) := atI_nat (j := 1) rfl
      walk_at "goz"
      refine ⟨fun σ H' => σ = [some (.ref b), some (.ref a), some (.ref t)] ∧ ∃ fp', Bw fp H fp' H' ∧ R.Rep fp' H' b S, ?_, ?_⟩
      · walk_at "goz"
        refine ⟨.inl ⟨rfl, _, SqL.of hq⟩, ?_⟩
        walk_at "goz"
        intro t2 ht2
        have s2 : Same H1 _ := same_new (o := .tup [.str "cup", .int 1, .int 1, .int 1]) ht2
        have hq2 := s2 _ _ hq
        have w2 := w1.trans (Bw.same (fp := fun x => fp x ∧ x ≠ qq) s2)
        have r2 := BRep.same r1 s2
        generalize upd H1 t2 (.tup [.str "cup", .int 1, .int 1, .int 1]) = H2 at *
        have lz := lo.2.1
        have xl : xs1.length = ls.length := by have := dq.length; rw [List.length_map] at this; exact this
        walk_at "goz"
        refine ⟨qq, xs1, _, rfl, rfl, hq2, Evl.sz_lt (by omega), ?_⟩
        exact ⟨rfl, _, w2.give fq ⟨_, hq2⟩, BRep.put r2 (fun z => z.2 rfl) ⟨_, hq2⟩⟩
      rintro σ H2 ⟨rfl, fp2, w2, r2⟩
      have hx2 := same_l (w2.off.trans off_same) hx
      walk_at "goz"
      refine ⟨a, _, rfl, hx2, ?_⟩
      rw [cut_last]
      intro p hp
      have s3 : Same H2 _ := same_new (o := .lst xs') hp
      have ep : upd H2 p (.lst xs') p = some (.lst xs') := upd_same
      have r3 := BRep.same r2 s3
      have dx3 := ((dxs.same w2.off).same off_same).same s3
      have w3 := w2.trans (Bw.same (fp := fp2) s3)
      generalize upd H2 p (.lst xs') = H3 at *
      rw [← hS] at r3
      refine ⟨fp2, b, p, ds, rfl, r3, .lst (SqL.of ep) dx3, L0, dz0, fun H4 fp4 w4 r4 => ?_⟩
      rw [hS] at r4
      exact q _ _ (w3.trans w4) r4
end
section
variable {P : Program} {w : World} {K : PySem.W.Frag} {mg : Str → Option Value} {base : Heap}
abbrev N_done : List Str := ["_law_book", "_law_deed", "_law_handed_here", "_law_found"]
abbrev P_done : List Str := ["_law_book", "_law_deed"]
theorem sc_done : FnScope N_done P_done (defScope s_done) := ⟨rfl, rfl, rfl, by decide +kernel, rfl, by decide +kernel, by decide +kernel⟩
def sp_done (R : BRep) (K : PySem.W.Frag) : Sp := fun vs H Q _ => ∃ (fp : Addr → Prop) (b : Addr) (v : V) (S : BS) (d : Deed), vs = [.ref b, v] ∧ R.Rep fp H b S ∧ S.past.length ≤ 5000 ∧ Dp K (off fp H) v (deedD d) ∧ d.Shape ∧ d.LinesOk ∧ refuseM S.M d = refusalM S.M d ∧
  (refusalM S.M d = "" → ∀ H' fp' r, Bw fp H fp' H' → R.Rep fp' H' b (S.did d) → Q r H') ∧ (refusalM S.M d ≠ "" → ∀ H' fp' r, Bw fp H fp' H' → R.Rep fp' H' b S → Q r H')
theorem c_done (T : Blt mg) {R : BRep} {cl : Str → Addr} (c_handed : Cal P w K mg base CX0 1 "_law_handed" P_handed (sp_handed K)) (c_tried : Cal P w K mg base CX0 9 "_law_tried" P_tried (sp_tried K R cl)) (D : DefAt K mg "_law_done" s_done P_done) : Cal P w K mg base CX0 10 "_law_done" P_done (sp_done R K) := by
  refine cal_of D sc_done (fun vs H Q E h => ?_) (fun f cdv A outer s H vs Q E hr h => ?_)
  · obtain ⟨fp, b, v, S, d, rfl, _⟩ := h
    rfl
  · obtain ⟨fp, b, v, S, d, rfl, r, pz, dv, sh, lo, ro, q, qe⟩ := h
    refine ⟨_, (pss_cons (ps_set (i := 2) sc_done.nd rfl (Or.inl rfl) (pe_cal c_handed (hr.mono (by decide)) pass0 (pa_cons (pv 1) pa_nil)))
      (pss_cons (ps_set (i := 3) sc_done.nd rfl (Or.inl rfl) (pe_cal c_tried (hr.mono (by decide)) pass0 (pa_cons (pv 0) (pa_cons (pv 2) pa_nil))))
      (Evl.pss_cut (ps_if (pt_val (pe_callB (kc_isi K) (by rfl) T.m_isinstance (by decide +kernel) (pa_cons (pv 3) (pa_cons (pe_bltn (v := .ty "list") (by rfl) T.m_list PyProof.Rows.boot_list rfl) pa_nil))))
        (pss_one (ps_expr (pe_bm PySem.F.plainAttrs_list PySem.F.slot_list_append PySem.F.type_list_append mt_append (pv 3) (pa_cons (pe_tup (pa_cons pe_int (pa_cons pe_int pa_nil))) pa_nil))))
        pss_nil)
      (Evl.pss_cut (ps_if (pt_cmpR op_eq (pe_ix (kx_tup K) (pv 1) pe_int (fun _ _ => rfl)) pe_str (nomark _))
        (pss_one (ps_expr (pe_bm PySem.F.plainAttrs_list PySem.F.slot_list_append PySem.F.type_list_append mt_append (pe_ix (kx_tup K) (pv 2) pe_int (fun _ _ => rfl)) (pa_cons (pe_tup (pa_cons pe_str (pa_cons pe_int (pa_cons pe_int (pa_cons pe_int pa_nil))))) pa_nil))))
        pss_nil)
      (pss_one (ps_ret (pv 2))))))), ?_⟩
    walk_at "goz"
    refine ⟨fp, v, d, rfl, R.has r, dv, sh, fun H1 hh s1 dh hd => ?_⟩
    have r1 := BRep.same r s1
    have dv1 := dv.same (off_mono (fp := fp) s1)
    walk_at "goz"
    refine ⟨fp, b, S, hh, rfl, r1, pz, .inl ⟨d, dh, sh, small_ok lo, fun e => ?_, fun e => ?_⟩⟩
    · rw [ro] at e
      have qx := q e
      intro H2 fp2 q2 xs2 g2 k2 r2 hq2 nq2 e2 d2
      have w2 := Bw.of g2 k2
      have cl2 := d2.length
      walk_at "goz"
      refine ⟨fun σ H' => σ = [some (.ref b), some v, some hh, some (.ref q2)] ∧ ∃ fp', Bw fp H1 fp' H' ∧ R.Rep fp' H' b (S.did d), ?_, ?_⟩
      · walk_at "goz"
        refine ⟨_, _, _, _, _, rfl, .ty _, tyx_l (SqL.of e2), kit_ty (r := true) (by decide +kernel), ?_⟩
        walk_at "goz"
        refine ⟨.inl ⟨rfl, _, SqL.of e2⟩, ?_⟩
        walk_at "goz"
        intro t2 ht2
        have s3 : Same H2 _ := same_new (o := .tup [.int 0, .int 9]) ht2
        have e3 := s3 _ _ e2
        have w3 := w2.trans (Bw.same (fp := fp2) s3)
        have r3 := BRep.same r2 s3
        generalize upd H2 t2 (.tup [.int 0, .int 9]) = H3 at *
        have lc : xs2.length ≤ 2 := by
          rw [cl2, List.length_map]
          unfold changesM
          rw [List.length_map]
          cases d <;> simp [placesM]
        walk_at "goz"
        refine ⟨q2, xs2, _, rfl, rfl, e3, Evl.sz_lt (by omega), ?_⟩
        exact ⟨rfl, _, w3.put hq2 ⟨_, e3⟩, BRep.put r3 nq2 ⟨_, e3⟩⟩
      rintro σ H5 ⟨rfl, fp5, w5, r5⟩
      have wH := (Bw.same (fp := fp) s1).trans w5
      have dv5 := (dv1.same w5.off).same off_same
      rcases d_cases d with no | ⟨ls, rfl⟩
      · obtain ⟨bb, o, rest, rfl, hb, nw, _⟩ := deed_gen dv5 sh no
        have e1 := dec_str_no nw
        have i0 : atI (V.str d.word :: V.int o :: rest) 0 = some (V.str d.word) := atI_nat (j := 0) rfl
        walk_at "goz"
        refine ⟨fun σ H' => σ = [some (.ref b), some (.ref bb), some hh, some (.ref q2)] ∧ ∃ fp', Bw fp H fp' H' ∧ R.Rep fp' H' b (S.did d), ?_, ?_⟩
        · walk_at "goz"
          exact ⟨_, wH, r5⟩
        rintro σ H6 ⟨rfl, fp6, w6, r6⟩
        walk_at "goz"
        exact qx _ _ _ w6 r6
      · obtain ⟨bb, y, rfl, hb, _⟩ := deed_ord dv5
        rcases hd with ⟨no, _⟩ | ⟨ls', t, qq, xs, eo', rfl, ht0, ht1, hq0, nqt, hq1, dxs⟩
        · exact absurd rfl (no ls)
        cases eo'
        have xl := dxs.length
        rw [List.length_map] at xl
        have lz := lo.2.1
        have e1 : decide (V.str "order" = V.str "order") = true := decide_eq_true rfl
        have i0 : atI [V.str "order", y] 0 = some (V.str "order") := atI_nat (j := 0) rfl
        have j1 : atI [V.str "order", V.ref qq] 1 = some (V.ref qq) := atI_nat (j := 1) rfl
        have ht5 := SqT.of (K := K) (w5.k.tups ⟨_, .inl rfl⟩ ht1)
        have hq5 := (w5.k _ _ hq1).1 fun z => (R.has r) qq z hq0
        walk_at "goz"
        refine ⟨fun σ H' => σ = [some (.ref b), some (.ref bb), some (.ref t), some (.ref q2)] ∧ ∃ fp', Bw fp H fp' H' ∧ R.Rep fp' H' b (S.did (.ord ls)), ?_, ?_⟩
        · walk_at "goz"
          refine ⟨.inl ⟨rfl, _, SqL.of hq5⟩, ?_⟩
          walk_at "goz"
          intro t3 ht3
          have s6 : Same H5 _ := same_new (o := .tup [.str "cup", .int 1, .int 1, .int 1]) ht3
          have hq6 := s6 _ _ hq5
          have w6 := wH.trans (Bw.same (fp := fp5) s6)
          have r6 := BRep.same r5 s6
          have nf5 : ¬ fp5 qq := fun z => (w5.n qq z).elim (fun z => (R.has r) qq z hq0) fun z => by rw [z] at hq1; cases hq1
          generalize upd H5 t3 (.tup [.str "cup", .int 1, .int 1, .int 1]) = H6 at *
          walk_at "goz"
          refine ⟨qq, xs, _, rfl, rfl, hq6, Evl.sz_lt (by omega), ?_⟩
          exact ⟨rfl, _, w6.put hq0 ⟨_, hq6⟩, BRep.put r6 nf5 ⟨_, hq6⟩⟩
        rintro σ H6 ⟨rfl, fp6, w6, r6⟩
        walk_at "goz"
        exact qx _ _ _ w6 r6
    · rw [ro] at e
      have qx := qe e
      intro H2 fp2 g2 k2 r2
      rw [ro]
      refine ⟨_, refusal_in e, rfl, ?_⟩
      have w2 := Bw.of g2 k2
      walk_at "goz"
      refine ⟨fun σ H' => σ = [some (.ref b), some v, some hh, some (.str (refusalM S.M d))] ∧ ∃ fp', Bw fp H1 fp' H' ∧ R.Rep fp' H' b S, ?_, ?_⟩
      · walk_at "goz"
        refine ⟨_, _, _, _, _, rfl, .ty _, .base (.str _), kit_ty (r := false) (by decide +kernel), ?_⟩
        walk_at "goz"
        exact ⟨_, w2, r2⟩
      rintro σ H5 ⟨rfl, fp5, w5, r5⟩
      have wH := (Bw.same (fp := fp) s1).trans w5
      have dv5 := (dv1.same w5.off).same off_same
      rcases d_cases d with no | ⟨ls, rfl⟩
      · obtain ⟨bb, o, rest, rfl, hb, nw, _⟩ := deed_gen dv5 sh no
        have e1 := dec_str_no nw
        have i0 : atI (V.str d.word :: V.int o :: rest) 0 = some (V.str d.word) := atI_nat (j := 0) rfl
        walk_at "goz"
        refine ⟨fun σ H' => σ = [some (.ref b), some (.ref bb), some hh, some (.str (refusalM S.M d))] ∧ ∃ fp', Bw fp H fp' H' ∧ R.Rep fp' H' b S, ?_, ?_⟩
        · walk_at "goz"
          exact ⟨_, wH, r5⟩
        rintro σ H6 ⟨rfl, fp6, w6, r6⟩
        walk_at "goz"
        exact qx _ _ _ w6 r6
      · obtain ⟨bb, y, rfl, hb, _⟩ := deed_ord dv5
        rcases hd with ⟨no, _⟩ | ⟨ls', t, qq, xs, eo', rfl, ht0, ht1, hq0, nqt, hq1, dxs⟩
        · exact absurd rfl (no ls)
        cases eo'
        have xl := dxs.length
        rw [List.length_map] at xl
        have lz := lo.2.1
        have e1 : decide (V.str "order" = V.str "order") = true := decide_eq_true rfl
        have i0 : atI [V.str "order", y] 0 = some (V.str "order") := atI_nat (j := 0) rfl
        have j1 : atI [V.str "order", V.ref qq] 1 = some (V.ref qq) := atI_nat (j := 1) rfl
        have ht5 := SqT.of (K := K) (w5.k.tups ⟨_, .inl rfl⟩ ht1)
        have hq5 := (w5.k _ _ hq1).1 fun z => (R.has r) qq z hq0
        walk_at "goz"
        refine ⟨fun σ H' => σ = [some (.ref b), some (.ref bb), some (.ref t), some (.str (refusalM S.M (.ord ls)))] ∧ ∃ fp', Bw fp H fp' H' ∧ R.Rep fp' H' b S, ?_, ?_⟩
        · walk_at "goz"
          refine ⟨.inl ⟨rfl, _, SqL.of hq5⟩, ?_⟩
          walk_at "goz"
          intro t3 ht3
          have s6 : Same H5 _ := same_new (o := .tup [.str "cup", .int 1, .int 1, .int 1]) ht3
          have hq6 := s6 _ _ hq5
          have w6 := wH.trans (Bw.same (fp := fp5) s6)
          have r6 := BRep.same r5 s6
          have nf5 : ¬ fp5 qq := fun z => (w5.n qq z).elim (fun z => (R.has r) qq z hq0) fun z => by rw [z] at hq1; cases hq1
          generalize upd H5 t3 (.tup [.str "cup", .int 1, .int 1, .int 1]) = H6 at *
          walk_at "goz"
          refine ⟨qq, xs, _, rfl, rfl, hq6, Evl.sz_lt (by omega), ?_⟩
          exact ⟨rfl, _, w6.put hq0 ⟨_, hq6⟩, BRep.put r6 nf5 ⟨_, hq6⟩⟩
        rintro σ H6 ⟨rfl, fp6, w6, r6⟩
        walk_at "goz"
        exact qx _ _ _ w6 r6
theorem pen_legs : (Deed.ord [⟨"pen", 1, 1, 1⟩]).Shape ∧ (Deed.ord [⟨"pen", 1, 1, 1⟩]).LinesOk ∧ refusalM B0.M (.ord [⟨"pen", 1, 1, 1⟩]) = "" ∧ refuseM B0.M (.ord [⟨"pen", 1, 1, 1⟩]) = "" := by
  have lg : refuseM B0.M (.ord [⟨"pen", 1, 1, 1⟩]) = "" := by decide +kernel
  exact ⟨trivial, (legal_ord lg).1, rfl, lg⟩
theorem legs_pays : ∀ (n : Nat) (S : BS), S.M.length = 1 → Legs S (List.replicate n (.money "pay" 0 1)) ∧ ((List.replicate n (Deed.money "pay" 0 1)).foldl BS.did S).M.length = 1
  | 0, S, h => ⟨trivial, h⟩
  | n + 1, S, h => by
    have h1 : (S.did (.money "pay" 0 1)).M.length = 1 := by
      show (stepM S.M (.money "pay" 0 1)).length = 1
      rw [stepM_no (fun _ z => by cases z), rowsM_length, turnM_length]
      exact h
    obtain ⟨i1, i2⟩ := legs_pays n (S.did (.money "pay" 0 1)) h1
    have lg : refusalM S.M (.money "pay" 0 1) = "" := by
      rw [refusal_money, if_neg (by rw [h]; decide), if_neg (by decide), if_neg (fun z => z.1 rfl)]
    exact ⟨⟨⟨.inl rfl, trivial, lg, lg⟩, i1⟩, i2⟩
abbrev N_paid_first : List Str := ["_law_book", "_law_cell", "_law_deeds", "_law_deed", "_law_k"]
abbrev P_paid_first : List Str := ["_law_book", "_law_cell"]
theorem sc_paid_first : FnScope N_paid_first P_paid_first (defScope s_paid_first) := ⟨rfl, rfl, rfl, by decide +kernel, rfl, by decide +kernel, by decide +kernel⟩
def sp_paid_first (R : BRep) (K : PySem.W.Frag) : Sp := fun vs H Q _ => ∃ (fp G : Addr → Prop) (b : Addr) (c : Int), vs = [.ref b, .int c] ∧ R.Rep fp H b B0 ∧ Has G H ∧ (∀ x, fp x → G x) ∧
  ∀ H' fp' a ds, Bw fp H fp' H' → R.Rep fp' H' b (ds.foldl BS.did B0) → Legs B0 ds → ds.length ≤ 46 → (ds.foldl BS.did B0).M.length ≤ 1 → H a = none → ¬ (G a ∨ fp' a) → (∃ xs, H' a = some (.lst xs) ∧ DpAll K (off (fun x => G x ∨ fp' x) H') xs (ds.map deedD)) → Q (.ref a) H'
theorem c_paid_first (T : Blt mg) {R : BRep} {cl : Str → Addr} {p1 : List Str} (c_handed : Cal P w K mg base CX0 1 "_law_handed" P_handed (sp_handed K)) (B_do : BCal P w K mg base 8 R.C "do" p1 (sp_do R K cl)) (D : DefAt K mg "_law_paid_first" s_paid_first P_paid_first) : Cal P w K mg base CX0 9 "_law_paid_first" P_paid_first (sp_paid_first R K) := by
  refine cal_of D sc_paid_first (fun vs H Q E h => ?_) (fun f cdv A outer s H vs Q E hr h => ?_)
  · obtain ⟨fp, G, b, c, rfl, _⟩ := h
    rfl
  · obtain ⟨fp, G, b, c, rfl, r, hfr, sub, q⟩ := h
    refine ⟨_, (pss_cons (ps_set (i := 2) sc_paid_first.nd rfl (Or.inl rfl) (pe_lst pa_nil))
      (Evl.pss_cut (ps_if (pt_cmpR op_eq (pe_op op_mod (pe_op op_mod (pe_op op_mul (pv 1) pe_int) pe_int) pe_int) pe_int (nomark _))
        (pss_one (ps_set (i := 2) sc_paid_first.nd rfl (Or.inl rfl) (pe_op op_cat (pe_lst (pa_cons (pe_tup (pa_cons pe_str (pa_cons (pe_lst (pa_cons (pe_tup (pa_cons pe_str (pa_cons pe_int (pa_cons pe_int (pa_cons pe_int pa_nil))))) pa_nil)) pa_nil))) pa_nil)) (pe_lc (own := [("_law_k", 4)]) (g := gName 4) (tt := tYes) rfl sc_paid_first.nd (pi_range1 (by rfl) T.m_range (pa_cons (pe_op op_add pe_int (pe_op op_mod (pe_op op_fdiv (pv 1) pe_int) pe_int)) pa_nil)) (blkOk_by (N := N_paid_first) (sc := defScope s_paid_first) (by decide +kernel)) (fun _ _ _ _ _ => pg_name (i := 4) sc_paid_first.nd rfl (Or.inl rfl)) (fun _ _ _ _ _ => pts_nil) (fun _ _ _ _ _ => (pe_tup (pa_cons pe_str (pa_cons pe_int (pa_cons pe_int pa_nil)))))))))
        pss_nil)
      (pss_cons (ps_for PassesOwn.never rfl (ki_list K (pv 2)) (pg_name (i := 3) sc_paid_first.nd rfl (Or.inl rfl))
        (pss_one (ps_expr (pe_bk B_do (pv 0) (hr.mono (by decide)) (pa_cons (pe_cal c_handed (hr.mono (by decide)) pass0 (pa_cons (pv 3) pa_nil)) pa_nil)))))
      (pss_one (ps_ret (pv 2)))))), ?_⟩
    walk_at "goz"
    intro a0 ha0
    walk_at "goz"
    have s0 : Same H _ := same_new (o := .lst []) ha0
    have e0 : upd H a0 (.lst []) a0 = some (.lst []) := upd_same
    have r0 := BRep.same r s0
    generalize upd H a0 (.lst []) = H0 at *
    refine ⟨fun σ H' => ∃ (a : Addr) (xs : List V) (ds : List Deed), σ = [some (.ref b), some (.int c), some (.ref a), none, none] ∧ Same H H' ∧ H a = none ∧ H' a = some (.lst xs) ∧ DpAll K (off G H') xs (ds.map deedD) ∧ Legs B0 ds ∧ ds.length ≤ 46 ∧ (ds.foldl BS.did B0).M.length ≤ 1, ?_, ?_⟩
    · walk_at "goz"
      refine ite2 (fun h => ?_) (fun h => ?_)
      rotate_left
      · exact ⟨a0, [], [], rfl, s0, ha0, e0, .nil, trivial, Nat.zero_le _, Nat.zero_le _⟩
      have m1 : 0 ≤ c / 16 % 25 := Int.emod_nonneg _ (by decide)
      have m2 : c / 16 % 25 < 25 := Int.emod_lt_of_pos _ (by decide)
      walk_at "goz"
      intro t1 h1
      walk_at "goz"
      intro l1 h2
      walk_at "goz"
      intro t2 h3
      walk_at "goz"
      intro l2 h4
      have s1 : Same H0 _ := same_new (o := .tup [.str "pen", .int 1, .int 1, .int 1]) h1
      have s2 := s1.trans (same_new (o := .lst [.ref t1]) h2)
      have s3 := s2.trans (same_new (o := .tup [.str "order", .ref l1]) h3)
      have s4 := s3.trans (same_new (o := .lst [.ref t2]) h4)
      have hf0 := hfr.same s0
      have hf1 := hf0.same s1
      have d1 := dp_tup_new hf0 h1 (K := K) (ds := [.str "pen", .int 1, .int 1, .int 1]) (.cons (.str _) (.cons (.int _) (.cons (.int _) (.cons (.int _) .nil))))
      have d2 := dp_lst_new hf1 h2 (.cons d1 .nil)
      have d3 := dp_tup_new (hf1.same (same_new h2)) h3 (.cons (.str "order") (.cons d2 .nil))
      have d4 : Dp K (off G _) (.ref t2) (deedD (.ord [⟨"pen", 1, 1, 1⟩])) := Dp.same d3 (off_mono (same_new (o := .lst [.ref t2]) h4))
      have e4 : upd (upd (upd (upd H0 t1 (.tup [.str "pen", .int 1, .int 1, .int 1])) l1 (.lst [.ref t1])) t2 (.tup [.str "order", .ref l1])) l2 (.lst [.ref t2]) l2 = some (.lst [.ref t2]) := upd_same
      generalize upd (upd (upd (upd H0 t1 (.tup [.str "pen", .int 1, .int 1, .int 1])) l1 (.lst [.ref t1])) t2 (.tup [.str "order", .ref l1])) l2 (.lst [.ref t2]) = H4 at *
      walk_at "goz"
      intro D hD
      have eN : (20 + c / 16 % 25).toNat ≤ 45 := by omega
      have hf4 : Has G H4 := hf0.same s4
      refine lcD_range (K := K) (fp := G) (List.replicate (20 + c / 16 % 25).toNat (deedD (.money "pay" 0 1))) (by rw [List.length_replicate]) (by rw [List.length_replicate]; omega) hD hf4 (fun i d H8 Rk hi hd s8 hf8 k => ?_) (fun H5 ys s5 e5 d5 _ => ?_)
      · have hd := (List.getElem?_eq_some_iff.mp hd).2
        rw [List.getElem_replicate] at hd
        subst hd
        walk_at "goz"
        intro t ht
        exact k _ _ (same_new ht) (dp_tup_new hf8 ht (.cons (.str _) (.cons (.int _) (.cons (.int _) .nil))))
      have yl := d5.length
      rw [List.length_replicate] at yl
      refine ⟨l2, D, _, _, rfl, rfl, s5 _ _ e4, e5, Evl.sz_of (by rw [yl]; show 1 + _ ≤ _; omega), fun a ha => ?_⟩
      have s05 := (s0.trans s4).trans s5
      obtain ⟨lp, mp⟩ := legs_pays (20 + c / 16 % 25).toNat (B0.did (.ord [⟨"pen", 1, 1, 1⟩])) rfl
      have d4' := d4.same (off_mono s5)
      refine ⟨a, _, .ord [⟨"pen", 1, 1, 1⟩] :: List.replicate (20 + c / 16 % 25).toNat (.money "pay" 0 1), rfl, s05.trans (same_new ha), none_back s05 ha, upd_same, ?_, ⟨pen_legs, lp⟩, by rw [List.length_cons, List.length_replicate]; omega, Nat.le_of_eq mp⟩
      rw [List.map_cons, List.map_replicate]
      exact (DpAll.cons d4' (d5.same (off_less fun _ z => .inl z))).same (off_mono (same_new ha))
    · rintro σ H1 ⟨a, xs, ds, rfl, s1, ha, ea, dx, L, dz, mz⟩
      have xl := dx.length
      rw [List.length_map] at xl
      have hx1 := SqL.of (K := K) ea
      have r1 := BRep.same r s1
      have nGa : ¬ G a := fun z => hfr a z ha
      have nfa : ¬ fp a := fun z => nGa (sub a z)
      walk_at "goz"
      refine ⟨⟨_, hx1⟩, ?_⟩
      refine for_list (K := K) (a := a) (xs := xs) (fun i σ H' => ∃ v fp', σ = [some (.ref b), some (.int c), some (.ref a), v, none] ∧ Bw fp H1 fp' H' ∧ R.Rep fp' H' b ((ds.take i).foldl BS.did B0))
        ⟨none, fp, rfl, .refl, r1⟩ (fun i σ H' _ ⟨_, _, _, wi, _⟩ => SqL.of ((wi.k _ _ ea).1 nfa)) ?_ ?_
      · rintro i x σ H2 hxi ⟨v, fp2, rfl, w2, r2⟩
        obtain ⟨e, he, de⟩ := dx.got hxi
        rw [List.getElem?_map] at he
        cases ed : ds[i]? with
        | none => rw [ed] at he; cases he
        | some d =>
        rw [ed] at he
        have he := Option.some.inj he
        subst he
        obtain ⟨sh, lo, rn, ro⟩ := legs_at L ed
        obtain ⟨_, _, _, pz⟩ := legs0 (legs_take (n := i) L)
        rw [List.length_take] at pz
        rw [take_succ' ed, List.foldl_append]
        generalize (ds.take i).foldl BS.did B0 = S2 at *
        have de2 : Dp K (off fp2 H2) x (deedD d) := (de.same (w2.offG sub)).same (off_less fun _ z => .inr z)
        walk_at "goz"
        refine ⟨R.ins r2, ?_⟩
        walk_at "goz"
        refine ⟨fp2, x, d, rfl, R.has r2, de2, sh, fun H3 hh s3 dh hd => ?_⟩
        have r3 := BRep.same r2 s3
        walk_at "goz"
        refine ⟨fp2, b, S2, hh, rfl, r3, by omega, .inl ⟨d, dh, sh, small_ok lo, fun _ => ?_, fun z => absurd ro z⟩⟩
        intro H4 fp4 q4 xs4 g4 k4 r4 _ _ _ _
        exact ⟨_, fp4, rfl, (w2.trans (Bw.same s3)).trans (Bw.of g4 k4), r4⟩
      · rintro σ H2 ⟨v, fp2, rfl, w2, r2⟩
        rw [xl, List.take_length] at r2
        walk_at "goz"
        refine q H2 fp2 a ds ((Bw.same s1).trans w2) r2 L dz mz ha (fun z => z.elim nGa fun z => (w2.n a z).elim nfa fun z => by rw [z] at ea; cases ea) ⟨xs, (w2.k _ _ ea).1 nfa, dx.same (w2.offG sub)⟩
end
section
variable {K : PySem.W.Frag} {R : BRep} {H H' : Hp} {BL L : Addr} {fp : Nat → Addr → Prop} {fp' : Addr → Prop} {b dl : Nat → Addr} {S : Nat → BS} {S' : BS} {ds : Nat → List Deed} {ds' : List Deed} {n j : Nat}
/-- one of them another -/
def put1 {α : Type} (f : Nat → α) (j : Nat) (x : α) : Nat → α := fun i => if i = j then x else f i
theorem put1_same {α : Type} {f : Nat → α} {j : Nat} {x : α} : put1 f j x j = x := if_pos rfl
theorem put1_ne {α : Type} {f : Nat → α} {i j : Nat} {x : α} (h : i ≠ j) : put1 f j x i = f i := if_neg h
/-- what may change -/
abbrev UF (fp : Nat → Addr → Prop) (L : Addr) : Addr → Prop := fun a => fp 0 a ∨ fp 1 a ∨ a = L
/-- a list of deeds that is not to change -/
structure DL (K : PySem.W.Frag) (U : Addr → Prop) (H : Hp) (a : Addr) (ds : List Deed) : Prop where
  nU : ¬ U a
  ex : ∃ xs, H a = some (.lst xs) ∧ DpAll K (off U H) xs (ds.map deedD)
theorem DL.dp {U : Addr → Prop} {a : Addr} {ds : List Deed} (h : DL K U H a ds) : Dp K (off U H) (.ref a) (.list (ds.map deedD)) := by
  obtain ⟨xs, e, dx⟩ := h.ex
  exact .lst (SqL.of (by rw [Of.off_out h.nU]; exact e)) dx
/-- two books, and the deeds that stand in each -/
structure Two (R : BRep) (K : PySem.W.Frag) (H : Hp) (BL L : Addr) (fp : Nat → Addr → Prop) (b dl : Nat → Addr) (S : Nat → BS) (ds : Nat → List Deed) (n : Nat) : Prop where
  bl : H BL = some (.lst [.ref (b 0), .ref (b 1)])
  l : H L = some (.lst [.ref (dl 0), .ref (dl 1)])
  ne : BL ≠ L
  nB : ∀ j, j < 2 → ¬ fp j BL ∧ ¬ fp j L
  dis : ∀ i j, i < 2 → j < 2 → i ≠ j → ∀ a, fp i a → ¬ fp j a
  rep : ∀ j, j < 2 → R.Rep (fp j) H (b j) (S j)
  dat : ∀ j, j < 2 → DL K (UF fp L) H (dl j) (ds j)
  leg : ∀ j, j < 2 → Legs B0 (ds j)
  len : ∀ j, j < 2 → (ds j).length ≤ n
theorem uf_of (hj : j < 2) {a : Addr} (h : fp j a) : UF fp L a := by
  rcases (show j = 0 ∨ j = 1 by omega) with rfl | rfl
  · exact .inl h
  · exact .inr (.inl h)
theorem uf_cases {a : Addr} (h : UF fp L a) : (∃ j, j < 2 ∧ fp j a) ∨ a = L := by
  rcases h with h | h | h
  · exact .inl ⟨0, by decide, h⟩
  · exact .inl ⟨1, by decide, h⟩
  · exact .inr h
theorem Two.mono {m : Nat} (t : Two R K H BL L fp b dl S ds n) (h : n ≤ m) : Two R K H BL L fp b dl S ds m := ⟨t.bl, t.l, t.ne, t.nB, t.dis, t.rep, t.dat, t.leg, fun j hj => Nat.le_trans (t.len j hj) h⟩
theorem Two.mt (t : Two R K H BL L fp b dl S ds n) : Mut (UF fp L) H := fun a z => by
  rcases uf_cases z with ⟨j, hj, z⟩ | z
  · exact R.mt (t.rep j hj) a z
  · rw [z]; exact ⟨_, t.l, tupO_lst⟩
theorem Two.same (t : Two R K H BL L fp b dl S ds n) (e : Same H H') : Two R K H' BL L fp b dl S ds n :=
  ⟨e _ _ t.bl, e _ _ t.l, t.ne, t.nB, t.dis, fun j hj => BRep.same (t.rep j hj) e, fun j hj => (by
    obtain ⟨xs, e1, dx⟩ := (t.dat j hj).ex
    exact ⟨(t.dat j hj).nU, xs, e _ _ e1, dx.same (off_mono e)⟩), t.leg, t.len⟩
theorem Two.ixB (t : Two R K H BL L fp b dl S ds n) (hj : j < 2) : atI [V.ref (b 0), .ref (b 1)] (j : Int) = some (.ref (b j)) := by
  rcases (show j = 0 ∨ j = 1 by omega) with rfl | rfl
  · exact atI_nat (j := 0) rfl
  · exact atI_nat (j := 1) rfl
theorem Two.ixL (t : Two R K H BL L fp b dl S ds n) (hj : j < 2) : atI [V.ref (dl 0), .ref (dl 1)] (j : Int) = some (.ref (dl j)) := by
  rcases (show j = 0 ∨ j = 1 by omega) with rfl | rfl
  · exact atI_nat (j := 0) rfl
  · exact atI_nat (j := 1) rfl
/-- one of the books did something -/
theorem Two.book (t : Two R K H BL L fp b dl S ds n) (hj : j < 2) (w : Bw (fp j) H fp' H') (r : R.Rep fp' H' (b j) S') : Two R K H' BL L (put1 fp j fp') b dl (put1 S j S') ds n ∧ Same (off (UF fp L) H) (off (UF (put1 fp j fp') L) H') := by
  have nw : ∀ a o, H a = some o → ¬ fp j a → ¬ fp' a := fun a o e n z => (w.n a z).elim n fun z => by rw [z] at e; cases e
  have st : ∀ a o, H a = some o → ¬ fp j a → H' a = some o := fun a o e n => (w.k a o e).1 n
  have so : Same (off (UF fp L) H) (off (UF (put1 fp j fp') L) H') := fun x o e => by
    obtain ⟨h1, h2⟩ := off_some e
    have nj : ¬ fp j x := fun z => h1 (uf_of hj z)
    rw [off_out fun z => ?_]
    · exact st x o h2 nj
    · rcases uf_cases z with ⟨i, hi, z⟩ | z
      · by_cases c : i = j
        · subst c
          rw [put1_same] at z
          exact nw x o h2 nj z
        · rw [put1_ne c] at z
          exact h1 (uf_of hi z)
      · exact h1 (.inr (.inr z))
  have ex : ∀ i, i < 2 → ∀ a, fp i a → ∃ o, H a = some o := fun i hi a z => by
    obtain ⟨o, e, _⟩ := R.mt (t.rep i hi) a z
    exact ⟨o, e⟩
  refine ⟨⟨st _ _ t.bl (t.nB j hj).1, st _ _ t.l (t.nB j hj).2, t.ne, fun i hi => ?_, fun i k hi hk ne a z1 z2 => ?_, fun i hi => ?_, fun i hi => ?_, t.leg, t.len⟩, so⟩
  · by_cases c : i = j
    · subst c
      rw [put1_same]
      exact ⟨nw _ _ t.bl (t.nB i hi).1, nw _ _ t.l (t.nB i hi).2⟩
    · rw [put1_ne c]
      exact t.nB i hi
  · by_cases c1 : i = j
    · subst c1
      rw [put1_same] at z1
      rw [put1_ne (Ne.symm ne)] at z2
      obtain ⟨o, e⟩ := ex k hk a z2
      exact nw a o e (fun z => t.dis i k hi hk ne a z z2) z1
    · rw [put1_ne c1] at z1
      by_cases c2 : k = j
      · subst c2
        rw [put1_same] at z2
        obtain ⟨o, e⟩ := ex i hi a z1
        exact nw a o e (fun z => t.dis i k hi hk ne a z1 z) z2
      · rw [put1_ne c2] at z2
        exact t.dis i k hi hk ne a z1 z2
  · by_cases c : i = j
    · subst c
      rw [put1_same, put1_same]
      exact r
    · rw [put1_ne c, put1_ne c]
      exact R.stays (t.rep i hi) (fun a o z e => st a o e fun z2 => t.dis i j hi hj c a z z2) fun a o tu e => w.k.tups tu e
  · obtain ⟨xs, e1, dx⟩ := (t.dat i hi).ex
    have nj : ¬ fp j (dl i) := fun z => (t.dat i hi).nU (uf_of hj z)
    refine ⟨fun z => ?_, xs, st _ _ e1 nj, dx.same so⟩
    rcases uf_cases z with ⟨k, hk, z⟩ | z
    · by_cases c : k = j
      · subst c
        rw [put1_same] at z
        exact nw _ _ e1 nj z
      · rw [put1_ne c] at z
        exact (t.dat i hi).nU (uf_of hk z)
    · exact (t.dat i hi).nU (.inr (.inr z))
/-- the deeds of one of them are others -/
theorem Two.deeds (t : Two R K H BL L fp b dl S ds n) (hj : j < 2) {a : Addr} (d : DL K (UF fp L) H a ds') (lg : Legs B0 ds') (ln : ds'.length ≤ n) :
    Two R K (upd H L (.lst ([V.ref (dl 0), .ref (dl 1)].set j (.ref a)))) BL L fp b (put1 dl j a) S (put1 ds j ds') n ∧ Same (off (UF fp L) H) (off (UF fp L) (upd H L (.lst ([V.ref (dl 0), .ref (dl 1)].set j (.ref a))))) := by
  have eo : off (UF fp L) (upd H L (.lst ([V.ref (dl 0), .ref (dl 1)].set j (.ref a)))) = off (UF fp L) H := off_upd (.inr (.inr rfl))
  refine ⟨⟨by rw [upd_ne t.ne]; exact t.bl, ?_, t.ne, t.nB, t.dis, fun i hi => BRep.put (t.rep i hi) (t.nB i hi).2 ⟨_, t.l⟩, fun i hi => ?_, fun i hi => ?_, fun i hi => ?_⟩, by rw [eo]; exact .refl _⟩
  · rw [upd_same]
    rcases (show j = 0 ∨ j = 1 by omega) with rfl | rfl <;> rfl
  · have go : ∀ {a2 : Addr} {ds2 : List Deed}, DL K (UF fp L) H a2 ds2 → DL K (UF fp L) (upd H L (.lst ([V.ref (dl 0), .ref (dl 1)].set j (.ref a)))) a2 ds2 := fun {a2 ds2} h => by
      obtain ⟨xs, e1, dx⟩ := h.ex
      have ne : a2 ≠ L := fun z => h.nU (.inr (.inr z))
      exact ⟨h.nU, xs, by rw [upd_ne ne]; exact e1, by rw [eo]; exact dx⟩
    by_cases c : i = j
    · subst c; rw [put1_same, put1_same]; exact go d
    · rw [put1_ne c, put1_ne c]; exact go (t.dat i hi)
  · by_cases c : i = j
    · subst c; rw [put1_same]; exact lg
    · rw [put1_ne c]; exact t.leg i hi
  · by_cases c : i = j
    · subst c; rw [put1_same]; exact ln
    · rw [put1_ne c]; exact t.len i hi
theorem deed_fl3 {d : Deed} (sh : d.Shape) (lo : d.LinesOk) : fl 3 (deedD d) = true := by
  rcases d_cases d with no | ⟨ls, rfl⟩
  · exact fl_mono (deed_flat sh no).ok (by decide)
  · show (fl 2 (.str "order") && (fl 2 (.list (ls.map lineD)) && true)) = true
    have h1 : fl 2 (.str "order") = true := by decide +kernel
    have h2 : fl 2 (.list (ls.map lineD)) = true := fl_map fun t ht => (FlatT.line (lo.2.2 t ht).str).ok
    rw [h1, h2]
    rfl
theorem legs_mem : ∀ {ds : List Deed} {S : BS}, Legs S ds → ∀ d ∈ ds, d.Shape ∧ d.LinesOk
  | [], _, _, _, h => by cases h
  | _ :: r, S, h, d, hd => by
    rcases List.mem_cons.mp hd with rfl | hd
    · exact ⟨h.1.1, h.1.2.1⟩
    · exact legs_mem (ds := r) h.2 d hd
theorem legs_shaped {ds : List Deed} {S : BS} (h : Legs S ds) : SeqAt.shaped (.list (ds.map deedD)) = true := shaped_fl (n := 4) (fl_map fun d hd => deed_fl3 (legs_mem h d hd).1 (legs_mem h d hd).2)
abbrev SF (ds : Nat → List Deed) : Nat → BS := fun i => (ds i).foldl BS.did B0
theorem put1_fold {ds : Nat → List Deed} {j : Nat} {ds' : List Deed} : put1 (SF ds) j (ds'.foldl BS.did B0) = SF (put1 ds j ds') := by
  funext i
  unfold put1 SF
  by_cases c : i = j
  · rw [if_pos c]; show _ = (if i = j then ds' else ds i).foldl BS.did B0; rw [if_pos c]
  · rw [if_neg c]; show _ = (if i = j then ds' else ds i).foldl BS.did B0; rw [if_neg c]
theorem put1_id {α : Type} {f : Nat → α} {j : Nat} : put1 f j (f j) = f := by
  funext i
  unfold put1
  by_cases c : i = j
  · rw [if_pos c, c]
  · rw [if_neg c]
end
section
variable {P : Program} {w : World} {K : PySem.W.Frag} {mg : Str → Option Value} {base : Heap}
abbrev N_law : List Str := ["_law_script", "_law_books", "_law_deeds", "_law_k", "_law_at", "_law_orders", "_law_deed"]
abbrev P_law : List Str := ["_law_script"]
theorem sc_law : FnScope N_law P_law (defScope s_law) := ⟨rfl, rfl, rfl, by decide +kernel, rfl, by decide +kernel, by decide +kernel⟩
def sp_law (K : PySem.W.Frag) : Sp := fun vs H Q _ => ∃ (a : Addr) (ns : List Int), vs = [.ref a] ∧ SqL K H a (ns.map V.int) ∧ ns.length ≤ 63 ∧ ∀ H', Q (.bl true) H'
theorem ok_law (T : Blt mg) {R : BRep} (M_Book : BMk P w K mg base 8 R) (c_cell_at : Cal P w K mg base CX0 1 "_law_cell_at" P_cell_at (sp_cell_at K)) (c_paid_first : Cal P w K mg base CX0 9 "_law_paid_first" P_paid_first (sp_paid_first R K)) (c_model_of : Cal P w K mg base CX0 4 "_law_model_of" P_model_of (sp_model_of K))
    (c_deed_by : Cal P w K mg base CX0 4 "_law_deed_by" P_deed_by (sp_deed_by K)) (c_back : Cal P w K mg base CX0 11 "_law_back" P_back (sp_back R K)) (c_done : Cal P w K mg base CX0 10 "_law_done" P_done (sp_done R K)) (c_refusal : Cal P w K mg base CX0 4 "_law_refusal" P_refusal (sp_refusal K))
    (c_stands_by : Cal P w K mg base CX0 10 "_law_stands_by" P_stands_by (sp_stands_by R K)) (c_nothing : Cal P w K mg base CX0 9 "_law_nothing" P_nothing (sp_nothing R)) {f : Addr} {fd : FuncData} (F : Fun K "law" "law" s_law f fd) : FnOk P w K mg base CX0 12 f fd P_law (sp_law K) := by
  refine F.ok sc_law (fun vs H Q E h => ?_) (fun cdv A outer s H vs Q E hr h => ?_)
  · obtain ⟨a, ns, rfl, _⟩ := h
    rfl
  · obtain ⟨a, ns, rfl, hS, hn, q⟩ := h
    refine ⟨_, (pss_cons (ps_set (i := 1) sc_law.nd rfl (Or.inl rfl) (pe_lst (pa_cons (pe_mkB M_Book (hr.mono (by decide))) (pa_cons (pe_mkB M_Book (hr.mono (by decide))) pa_nil))))
      (pss_cons (ps_set (i := 2) sc_law.nd rfl (Or.inl rfl) (pe_lst (pa_cons (pe_cal c_paid_first (hr.mono (by decide)) pass0 (pa_cons (pe_ix (kx_list K) (pv 1) pe_int (fun _ _ => rfl)) (pa_cons (pe_cal c_cell_at (hr.mono (by decide)) pass0 (pa_cons (pv 0) (pa_cons pe_int pa_nil))) pa_nil))) (pa_cons (pe_lst pa_nil) pa_nil))))
      (pss_cons (ps_for PassesOwn.never rfl (pi_range1 (by rfl) T.m_range (pa_cons (pe_op op_fdiv (pe_callB (kc_len K) (by rfl) T.m_len PySem.boot_len (pa_cons (pv 0) pa_nil)) pe_int) pa_nil)) (pg_name (i := 3) sc_law.nd rfl (Or.inl rfl))
        (pss_cons (ps_set (i := 4) sc_law.nd rfl (Or.inl rfl) (pe_callTy call_int1 (by rfl) T.m_int PyProof.Rows.boot_int (pa_cons (pe_cmpR op_eq (pe_op op_mod (pe_op op_mod (pe_op op_mul (pe_ix (kx_list K) (pv 0) (pe_op op_mul pe_int (pv 3)) (fun _ _ => rfl)) pe_int) pe_int) pe_int) pe_int (nomark _)) pa_nil)))
        (pss_cons (ps_set (i := 5) sc_law.nd rfl (Or.inl rfl) (pe_cal c_model_of (hr.mono (by decide)) pass0 (pa_cons (pe_ix (kx_list K) (pv 2) (pv 4) (fun _ _ => rfl)) pa_nil)))
        (pss_cons (ps_set (i := 6) sc_law.nd rfl (Or.inl rfl) (pe_cal c_deed_by (hr.mono (by decide)) pass0 (pa_cons (pe_ix (kx_list K) (pv 0) (pe_op op_mul pe_int (pv 3)) (fun _ _ => rfl)) (pa_cons (pe_ix (kx_list K) (pv 0) (pe_op op_add (pe_op op_mul pe_int (pv 3)) pe_int) (fun _ _ => rfl)) (pa_cons (pv 5) pa_nil)))))
        (pss_one (ps_if (PW.pt (pw_and (pt_cmpR (ko_neD K hr.units) (pe_ix (kx_list K) (pv 2) (pv 4) (fun _ _ => rfl)) (pe_lst pa_nil) (nomark _)) (pw_and1 (pt_cmpR op_eq (pe_op op_mod (pe_op op_mod (pe_op op_mul (pe_ix (kx_list K) (pv 0) (pe_op op_mul pe_int (pv 3)) (fun _ _ => rfl)) pe_int) pe_int) pe_int) pe_int (nomark _)))))
          (pss_cons (ps_if (pt_not (pt_val (pe_cal c_back (hr.mono (by decide)) pass0 (pa_cons (pe_ix (kx_list K) (pv 1) (pv 4) (fun _ _ => rfl)) (pa_cons (pe_ix (kx_list K) (pv 2) (pv 4) (fun _ _ => rfl)) pa_nil)))))
            (pss_one (ps_ret pe_bl))
            pss_nil)
          (pss_one (ps_asg (pe_slice (ks_list K) (pe_ix (kx_list K) (pv 2) (pv 4) (fun _ _ => rfl)) po_none (po_some (pe_un un_neg pe_int))) (pg_sub (pv 2) (pv 4) set_list))))
          (pss_cons (ps_expr (pe_cal c_done (hr.mono (by decide)) pass0 (pa_cons (pe_ix (kx_list K) (pv 1) (pv 4) (fun _ _ => rfl)) (pa_cons (pv 6) pa_nil))))
          (Evl.pss_cut (ps_if (pt_cmpR op_eq (pe_cal c_refusal (hr.mono (by decide)) pass0 (pa_cons (pv 6) (pa_cons (pv 5) pa_nil))) pe_str (nomark _))
            (pss_one (ps_asg (pe_op op_cat (pe_ix (kx_list K) (pv 2) (pv 4) (fun _ _ => rfl)) (pe_lst (pa_cons (pv 6) pa_nil))) (pg_sub (pv 2) (pv 4) set_list)))
            pss_nil)
          (pss_one (ps_if (pt_not (pt_val (pe_cal c_stands_by (hr.mono (by decide)) pass0 (pa_cons (pe_ix (kx_list K) (pv 1) (pv 4) (fun _ _ => rfl)) (pa_cons (pe_ix (kx_list K) (pv 2) (pv 4) (fun _ _ => rfl)) pa_nil)))))
            (pss_one (ps_ret pe_bl))
            pss_nil))))))))))
      (pss_cons (ps_for PassesOwn.never rfl (pi_range1 (by rfl) T.m_range (pa_cons pe_int pa_nil)) (pg_name (i := 4) sc_law.nd rfl (Or.inl rfl))
        (pss_one (ps_while PassesOwn.never (pt_cmpR (ko_neD K hr.units) (pe_ix (kx_list K) (pv 2) (pv 4) (fun _ _ => rfl)) (pe_lst pa_nil) (nomark _))
          (pss_cons (ps_if (pt_not (pt_val (pe_cal c_back (hr.mono (by decide)) pass0 (pa_cons (pe_ix (kx_list K) (pv 1) (pv 4) (fun _ _ => rfl)) (pa_cons (pe_ix (kx_list K) (pv 2) (pv 4) (fun _ _ => rfl)) pa_nil)))))
            (pss_one (ps_ret pe_bl))
            pss_nil)
          (pss_one (ps_asg (pe_slice (ks_list K) (pe_ix (kx_list K) (pv 2) (pv 4) (fun _ _ => rfl)) po_none (po_some (pe_un un_neg pe_int))) (pg_sub (pv 2) (pv 4) set_list)))))))
      (pss_one (ps_ret (pe_and (pe_cal c_nothing (hr.mono (by decide)) pass0 (pa_cons (pe_ix (kx_list K) (pv 1) pe_int (fun _ _ => rfl)) pa_nil)) (pe_one (pe_cal c_nothing (hr.mono (by decide)) pass0 (pa_cons (pe_ix (kx_list K) (pv 1) pe_int (fun _ _ => rfl)) pa_nil)))))))))), ?_⟩
    walk_at "goz"
    intro H1 b0 fp0 f0 g0 s1 r0
    walk_at "goz"
    intro H2 b1 fp1 f1 g1 s2 r1
    walk_at "goz"
    intro BL hBL
    have s3 : Same H2 _ := same_new (o := .lst [.ref b0, .ref b1]) hBL
    have eB : upd H2 BL (.lst [.ref b0, .ref b1]) BL = some (.lst [.ref b0, .ref b1]) := upd_same
    have r0' := BRep.same r0 (s2.trans s3)
    have r1' := BRep.same r1 s3
    have dis0 : ∀ x, fp1 x → H1 x = none := f1
    have ex0 : ∀ x, fp0 x → H1 x ≠ none := fun x z => (R.mt r0).has x z
    have nB0 : ¬ fp0 BL := fun z => (R.mt (BRep.same r0 s2)).has BL z hBL
    have nB1 : ¬ fp1 BL := fun z => (R.mt r1).has BL z hBL
    have s123 := (s1.trans s2).trans s3
    generalize upd H2 BL (.lst [.ref b0, .ref b1]) = H3 at *
    have hB3 := SqL.of (K := K) eB
    have hS3 := same_l s123 hS
    have iB0 : atI [V.ref b0, .ref b1] 0 = some (.ref b0) := atI_nat (j := 0) rfl
    walk_at "goz"
    refine ⟨a, ns, 0, rfl, hS3, ?_⟩
    walk_at "goz"
    have d01 : ∀ x, fp1 x → ¬ fp0 x := fun x z z2 => ex0 x z2 (dis0 x z)
    have hG : Has (fun x => fp0 x ∨ fp1 x) H3 := fun x z => z.elim (fun z => (R.mt r0').has x z) fun z => (R.mt r1').has x z
    refine ⟨fp0, fun x => fp0 x ∨ fp1 x, b0, _, rfl, r0', hG, fun x z => .inl z, fun H4 fp4 dl0 ds0 w4 r4 lg4 lz4 m4 ha4 nd4 ⟨xs4, ed4, d4⟩ => ?_⟩
    have eB4 := (w4.k _ _ eB).1 nB0
    have r1'' : R.Rep fp1 H4 b1 B0 := R.stays r1' (fun x o z e => (w4.k x o e).1 (d01 x z)) fun x o t e => w4.k.tups t e
    have ex1 : ∀ x, fp1 x → H3 x ≠ none := fun x z => (R.mt r1').has x z
    have nB4 : ¬ fp4 BL := fun z => (w4.n _ z).elim nB0 fun z => by rw [z] at eB; cases eB
    have d41 : ∀ x, fp4 x → ¬ fp1 x := fun x z z2 => (w4.n x z).elim (d01 x z2) (ex1 x z2)
    have hS4 : SqL K (off (fun x => fp4 x ∨ fp1 x) H4) a (ns.map V.int) := by
      refine same_l (fun x o e => ?_) hS
      have e3 := s123 x o e
      have n0 : ¬ fp0 x := fun z => by rw [f0 x z] at e; cases e
      have n1 : ¬ fp1 x := fun z => by have := dis0 x z; rw [s1 x o e] at this; cases this
      have n4 : ¬ fp4 x := fun z => (w4.n x z).elim n0 fun z => by rw [z] at e3; cases e3
      rw [off_out fun z => z.elim n4 n1]
      exact (w4.k x o e3).1 n0
    walk_at "goz"
    intro dl1 h5
    walk_at "goz"
    intro L hL
    have s5 : Same H4 _ := same_new (o := .lst []) h5
    have s6 := s5.trans (same_new (o := .lst [.ref dl0, .ref dl1]) hL)
    have e5 : upd (upd H4 dl1 (.lst [])) L (.lst [.ref dl0, .ref dl1]) dl1 = some (.lst []) := same_new hL _ _ upd_same
    have e6 : upd (upd H4 dl1 (.lst [])) L (.lst [.ref dl0, .ref dl1]) L = some (.lst [.ref dl0, .ref dl1]) := upd_same
    have hL4 := none_back s5 hL
    have r6 := BRep.same r4 s6
    have r6' := BRep.same r1'' s6
    have eB6 := s6 _ _ eB4
    have ed6 := s6 _ _ ed4
    have ned : dl0 ≠ L := fun z => by rw [z, hL4] at ed4; cases ed4
    have neL : BL ≠ L := fun z => by rw [← z, eB4] at hL4; cases hL4
    have ne5 : dl1 ≠ L := ne_of_none upd_same hL
    generalize upd (upd H4 dl1 (.lst [])) L (.lst [.ref dl0, .ref dl1]) = H6 at *
    have nL4 : ¬ fp4 L := fun z => (R.mt r4).has L z hL4
    have nL1 : ¬ fp1 L := fun z => (R.mt r1'').has L z hL4
    have fF : ∃ fp : Nat → Addr → Prop, fp 0 = fp4 ∧ fp 1 = fp1 := ⟨fun i => if i = 0 then fp4 else fp1, rfl, rfl⟩
    obtain ⟨fp, rfl, rfl⟩ := fF
    obtain ⟨b, rfl, rfl⟩ : ∃ b : Nat → Addr, b 0 = b0 ∧ b 1 = b1 := ⟨fun i => if i = 0 then b0 else b1, rfl, rfl⟩
    obtain ⟨dl, rfl, rfl⟩ : ∃ b : Nat → Addr, b 0 = dl0 ∧ b 1 = dl1 := ⟨fun i => if i = 0 then dl0 else dl1, rfl, rfl⟩
    obtain ⟨ds, rfl, e1⟩ : ∃ b : Nat → List Deed, b 0 = ds0 ∧ b 1 = [] := ⟨fun i => if i = 0 then ds0 else [], rfl, rfl⟩
    have o46 : Same (off (fun x => (fp0 x ∨ fp 1 x) ∨ fp 0 x) H4) (off (UF fp L) H6) := fun x o e => by
      obtain ⟨h1, h2⟩ := off_some e
      rw [off_out fun z => ?_]
      · exact s6 x o h2
      · rcases z with z | z | z
        · exact h1 (.inr z)
        · exact h1 (.inl (.inr z))
        · rw [z, hL4] at h2; cases h2
    have two : Two R K H6 BL L fp b dl (SF ds) ds 46 := by
      have n51 : ¬ UF fp L (dl 1) := fun z => by
        rcases z with z | z | z
        · exact (R.mt r4).has _ z h5
        · exact (R.mt r1'').has _ z h5
        · exact ne5 z
      refine ⟨eB6, e6, neL, fun j hj => ?_, fun i j hi hj ne x z1 z2 => ?_, fun j hj => ?_, fun j hj => ?_, fun j hj => ?_, fun j hj => ?_⟩
      · rcases (show j = 0 ∨ j = 1 by omega) with rfl | rfl
        · exact ⟨nB4, nL4⟩
        · exact ⟨nB1, nL1⟩
      · rcases (show i = 0 ∨ i = 1 by omega) with rfl | rfl <;> rcases (show j = 0 ∨ j = 1 by omega) with rfl | rfl
        · exact ne rfl
        · exact d41 x z1 z2
        · exact d41 x z2 z1
        · exact ne rfl
      · rcases (show j = 0 ∨ j = 1 by omega) with rfl | rfl
        · exact r6
        · show R.Rep (fp 1) H6 (b 1) ((ds 1).foldl BS.did B0)
          rw [e1]; exact r6'
      · rcases (show j = 0 ∨ j = 1 by omega) with rfl | rfl
        · refine ⟨fun z => ?_, xs4, ed6, d4.same o46⟩
          rcases z with z | z | z
          · exact nd4 (.inr z)
          · exact nd4 (.inl (.inr z))
          · exact ned z
        · rw [e1]; exact ⟨n51, [], e5, .nil⟩
      · rcases (show j = 0 ∨ j = 1 by omega) with rfl | rfl
        · exact lg4
        · rw [e1]; trivial
      · rcases (show j = 0 ∨ j = 1 by omega) with rfl | rfl
        · exact lz4
        · rw [e1]; exact Nat.zero_le _
    have hS6 : SqL K (off (UF fp L) H6) a (ns.map V.int) := same_l (fun x o e => by
      obtain ⟨h1, h2⟩ := off_some e
      rw [off_out fun z => ?_]
      · exact s6 x o h2
      · rcases z with z | z | z
        · exact h1 (.inl z)
        · exact h1 (.inr z)
        · rw [z, hL4] at h2; cases h2) hS4
    have hS6' := same_l off_same hS6
    have hlm : (ns.map V.int).length ≤ 63 := by rw [List.length_map]; exact hn
    clear r6 r6' r4 r1'' r1' r0' hS4 d4 w4 eB4 eB6 e5 e6 s6 s5 o46 hG hS3 hB3
    walk_at "goz"
    refine for_range (lo := 0) (n := (((ns.map V.int).length : Int) / 2).toNat) (fun i σ H' => ∃ v3 v4 v5 v6 fp dl ds, σ = [some (.ref a), some (.ref BL), some (.ref L), v3, v4, v5, v6] ∧ SqL K (off (UF fp L) H') a (ns.map V.int) ∧ Two R K H' BL L fp b dl (SF ds) ds (46 + i))
      ⟨none, none, none, none, fp, dl, ds, rfl, hS6, two⟩ ?_ ?_
    · rintro i σ H9 hi ⟨v3, v4, v5, v6, fp, dl, ds, rfl, hS9, two⟩
      rw [List.length_map] at hi
      have i63 : 2 * i + 1 < ns.length := by omega
      have ix1 : atI (ns.map V.int) (2 * (0 + (i : Int))) = some (.int ns[2 * i]) := by
        rw [show 2 * (0 + (i : Int)) = ((2 * i : Nat) : Int) by omega]
        exact atI_nat (by rw [List.getElem?_map, List.getElem?_eq_getElem (show 2 * i < ns.length by omega)]; rfl)
      have ix2 : atI (ns.map V.int) (2 * (0 + (i : Int)) + 1) = some (.int ns[2 * i + 1]) := by
        rw [show 2 * (0 + (i : Int)) + 1 = ((2 * i + 1 : Nat) : Int) by omega]
        exact atI_nat (by rw [List.getElem?_map, List.getElem?_eq_getElem i63]; rfl)
      generalize ns[2 * i] = c1 at *
      generalize ns[2 * i + 1] = c2 at *
      have hS9' := same_l off_same hS9
      have hB9 := SqL.of (K := K) two.bl
      have hL9 := SqL.of (K := K) two.l
      walk_at "goz"
      obtain ⟨j, hj, ej⟩ : ∃ j : Nat, j < 2 ∧ (if decide ((fun (i j : Int) => V.int (i % j)) (c1 * 48271 % 10103) 4 = V.int 0) = true then (1 : Int) else 0) = (j : Int) := by
        split
        · exact ⟨1, by decide, rfl⟩
        · exact ⟨0, by decide, rfl⟩
      rw [ej]
      clear ej
      have ixB := two.ixB hj
      have ixL := two.ixL hj
      have dz := two.len j hj
      have lg := two.leg j hj
      walk_at "goz"
      refine ⟨dl j, ds j, rfl, (two.dat j hj).dp.same off_same, lg, by omega, fun Ha F own p os sa nw m A => ?_⟩
      have twoa := two.same sa
      have hSa := same_l (off_mono (fp := UF fp L) sa) hS9
      obtain ⟨W, rl, ml, pl⟩ := legs0 lg
      have mtG : Mut (fun x => F x ∨ UF fp L x) Ha := fun x z => z.elim (m x) (twoa.mt x)
      have A' := A.wide W mtG fun x z => .inl (A.sub x z)
      have nFU : ∀ x, F x → ¬ UF fp L x := fun x z z2 => two.mt.has x z2 (nw x z)
      have hSa' := same_l off_same hSa
      have hBa := SqL.of (K := K) twoa.bl
      have hLa := SqL.of (K := K) twoa.l
      walk_at "goz"
      refine ⟨_, own, p, os, _, c1, c2, rfl, A', W, mtG.has, fun Hb v d sb sh lo few dv => ?_⟩
      have twob := twoa.same sb
      have Ab := A'.same sb
      have hSb := same_l (off_mono (fp := UF fp L) sb) hSa
      have mtGb : Mut (fun x => F x ∨ UF fp L x) Hb := (Keep.same (own := fun _ => False) sb).mut mtG
      have few' : ∀ ls, d = .ord ls → ((ds j).foldl BS.did B0).M.length < 40 := fun ls e => Nat.lt_trans (few ls e) (by decide)
      have ro := refuse_ok lo few'
      have hBb := SqL.of (K := K) twob.bl
      have hLb := SqL.of (K := K) twob.l
      have hSb' := same_l off_same hSb
      walk_at "goz"
      intro z1 hz1
      have sc := same_new (o := .lst []) hz1
      have ez : upd Hb z1 (.lst []) z1 = some (.lst []) := upd_same
      have twoc := twob.same sc
      have Ac := Ab.same sc
      have dvc := dv.same (off_mono (fp := fun x => F x ∨ UF fp L x) sc)
      have hSc := same_l (off_mono (fp := UF fp L) sc) hSb
      generalize upd Hb z1 (.lst []) = Hc at *
      have hBc := SqL.of (K := K) twoc.bl
      have hLc := SqL.of (K := K) twoc.l
      have hSc' := same_l off_same hSc
      have shN : SeqAt.shaped (.list []) = true := by decide +kernel
      refine ⟨_, _, (twoc.dat j hj).dp.same off_same, .lst (SqL.of ez) .nil, legs_shaped lg, shN, ?_⟩
      rw [eqv_nil]
      have hx : (∃ ds0 d0, ds j = ds0 ++ [d0] ∧ decide (V.int (c1 * 48271 % 10111 % 8) = V.int 0) = true) ∨ (ds j = [] ∨ ((∃ ds0 d0, ds j = ds0 ++ [d0]) ∧ decide (V.int (c1 * 48271 % 10111 % 8) = V.int 0) = false)) := by
        rcases List.eq_nil_or_concat (ds j) with e | ⟨l0, x0, e⟩
        · exact .inr (.inl e)
        · cases ht : decide (V.int (c1 * 48271 % 10111 % 8) = V.int 0) with
          | true => exact .inl ⟨l0, x0, by rw [e, List.concat_eq_append], rfl⟩
          | false => exact .inr (.inr ⟨⟨l0, x0, by rw [e, List.concat_eq_append]⟩, rfl⟩)
      have ixB' := twoc.ixB hj
      have ixL' := twoc.ixL hj
      have ij2 : ixN [V.ref (dl 0), .ref (dl 1)].length (j : Int) = some j := ix_in hj
      rcases hx with ⟨ds0, d0, eds, t2⟩ | hx
      · have em : (List.map deedD (ds j)).isEmpty = false := by rw [eds]; cases ds0 <;> rfl
        rw [em]
        walk_at "goz"
        refine ⟨fp j, b j, dl j, ds0, d0, rfl, by rw [← eds]; exact twoc.rep j hj, by rw [← eds]; exact (twoc.dat j hj).dp.same (off_less fun x z => uf_of hj z), by rw [← eds]; exact lg, by rw [← eds]; omega, fun Hd fpd w r' => ?_⟩
        obtain ⟨twod, sod⟩ := twoc.book hj w r'
        have hSd := same_l sod hSc
        have hBd := SqL.of (K := K) twod.bl
        have hLd := SqL.of (K := K) twod.l
        obtain ⟨xs, exd, dx⟩ := (twod.dat j hj).ex
        rw [eds, List.map_append] at dx
        obtain ⟨xs', x, rfl, dxs, _⟩ := dpAll_snoc dx
        have hXd := SqL.of (K := K) exd
        walk_at "goz"
        refine ⟨dl j, _, rfl, hXd, ?_⟩
        rw [cut_last]
        intro p2 hp2
        have se : Same Hd _ := same_new (o := .lst xs') hp2
        have ep2 : upd Hd p2 (.lst xs') p2 = some (.lst xs') := upd_same
        have twoe := twod.same se
        have nU2 := twod.mt.has.new hp2
        have hSe := same_l (off_mono (fp := UF (put1 fp j fpd) L) se) hSd
        have dxe := dxs.same (off_mono (fp := UF (put1 fp j fpd) L) se)
        generalize upd Hd p2 (.lst xs') = He at *
        walk_at "goz"
        refine ⟨L, _, (j : Int), j, rfl, rfl, twoe.l, ij2, ?_⟩
        obtain ⟨twof, sof⟩ := twoe.deeds hj (ds' := ds0) ⟨nU2, xs', ep2, dxe⟩ (legs_init (by rw [← eds]; exact lg)) (by rw [eds, List.length_append] at dz; omega)
        rw [put1_fold] at twof
        exact ⟨_, _, _, _, _, _, _, rfl, same_l sof hSe, twof.mono (by omega)⟩
      rcases hx with eds | ⟨⟨ds0, d0, eds⟩, t2⟩
      · have em : (List.map deedD (ds j)).isEmpty = true := by rw [eds]; rfl
        rw [em]
        walk_at "goz"
        refine ⟨fp j, b j, v, (ds j).foldl BS.did B0, d, rfl, twoc.rep j hj, by omega, dvc.same (off_less fun x z => .inr (uf_of hj z)), sh, lo, ro, fun e Hd fpd r9 w r' => ?_, fun e Hd fpd r9 w r' => ?_⟩
        · obtain ⟨twod, sod⟩ := twoc.book hj w r'
          have nown : ∀ x, own x → ¬ fp j x := fun x z z2 => nFU x (A.sub x z) (uf_of hj z2)
          have Ad := Ac.frame (fun x o z ex => (w.k x o ex).1 (nown x z)) (w.offG (G := fun x => F x ∨ UF fp L x) fun x z => .inr (uf_of hj z)) (fun x z => .inl (Ac.sub x z))
          have dvd := dvc.same (w.offG (G := fun x => F x ∨ UF fp L x) fun x z => .inr (uf_of hj z))
          have hSd := same_l sod hSc
          have hBd := SqL.of (K := K) twod.bl
          have hLd := SqL.of (K := K) twod.l
          walk_at "goz"
          refine ⟨fun σ H' => ∃ fp dl ds, σ = [some (.ref a), some (.ref BL), some (.ref L), some (.int (0 + (i : Int))), some (.int (j : Int)), some (.ref p), some v] ∧ SqL K (off (UF fp L) H') a (ns.map V.int) ∧ Two R K H' BL L fp b dl (SF ds) ds (46 + (i + 1)), ?_, ?_⟩
          · walk_at "goz"
            refine ⟨_, own, p, os, _, v, d, rfl, Ad, W, dvd.same off_same, sh, fun He se => ?_⟩
            rw [e]
            have e0 : decide (V.str "" = V.str "") = true := decide_eq_true rfl
            have twoe := twod.same se
            have hSe := same_l (off_mono (fp := UF (put1 fp j fpd) L) se) hSd
            have dve := dvd.same (off_mono (fp := fun x => (F x ∨ UF fp L x) ∨ fpd x) se)
            have hLe := SqL.of (K := K) twoe.l
            obtain ⟨xs, exd, dx⟩ := (twoe.dat j hj).ex
            have xl := dx.length
            rw [List.length_map] at xl
            walk_at "goz"
            intro z2 hz2
            have sf : Same He _ := same_new (o := .lst [v]) hz2
            have ez2 : upd He z2 (.lst [v]) z2 = some (.lst [v]) := upd_same
            refine ⟨dl j, z2, xs, [v], rfl, rfl, sf _ _ exd, ez2, Evl.sz_of (by rw [xl]; show _ + 1 ≤ _; omega), fun a2 ha2 => ?_⟩
            have sg := sf.trans (same_new (o := .lst (xs ++ [v])) ha2)
            have ea2 : upd (upd He z2 (.lst [v])) a2 (.lst (xs ++ [v])) a2 = some (.lst (xs ++ [v])) := upd_same
            have twog := twoe.same sg
            have nU2 := twoe.mt.has.new (none_back sf ha2)
            have hSg := same_l (off_mono (fp := UF (put1 fp j fpd) L) sg) hSe
            have usub : ∀ x, UF (put1 fp j fpd) L x → (F x ∨ UF fp L x) ∨ fpd x := fun x z => by
              rcases uf_cases z with ⟨k, hk, z⟩ | z
              · by_cases c : k = j
                · subst c; rw [put1_same] at z; exact .inr z
                · rw [put1_ne c] at z; exact .inl (.inr (uf_of hk z))
              · exact .inl (.inr (.inr (.inr z)))
            have dvg := (dve.same (off_less usub)).same (off_mono (fp := UF (put1 fp j fpd) L) sg)
            have dxg := dx.same (off_mono (fp := UF (put1 fp j fpd) L) sg)
            generalize upd (upd He z2 (.lst [v])) a2 (.lst (xs ++ [v])) = Hg at *
            walk_at "goz"
            refine ⟨L, _, (j : Int), j, rfl, rfl, twog.l, ij2, ?_⟩
            obtain ⟨twoh, soh⟩ := (twog.mono (m := 46 + (i + 1)) (by omega)).deeds hj (ds' := ds j ++ [d]) ⟨nU2, xs ++ [v], ea2, by rw [List.map_append]; exact dxg.append (.cons dvg .nil)⟩ (legs_snoc lg ⟨sh, lo, e, ro.trans e⟩) (by rw [List.length_append]; show _ + 1 ≤ _; omega)
            have eS : put1 (SF ds) j (((ds j).foldl BS.did B0).did d) = SF (put1 ds j (ds j ++ [d])) := by rw [← put1_fold, List.foldl_append]; rfl
            rw [eS] at twoh
            exact ⟨_, _, _, rfl, same_l soh hSg, twoh⟩
          rintro σ Hf ⟨fp5, dl5, ds5, rfl, hS5, two5⟩
          have ixB5 := two5.ixB hj
          have ixL5 := two5.ixL hj
          have hB5 := SqL.of (K := K) two5.bl
          have hL5 := SqL.of (K := K) two5.l
          have dz5 := two5.len j hj
          walk_at "goz"
          refine ⟨fp5 j, b j, dl5 j, ds5 j, rfl, two5.rep j hj, (two5.dat j hj).dp.same off_same, two5.leg j hj, by omega, fun Hg fpg wg rg => ?_⟩
          obtain ⟨two6, so6⟩ := two5.book hj wg rg
          rw [show put1 (SF ds5) j ((ds5 j).foldl BS.did B0) = SF ds5 from put1_id] at two6
          walk_at "goz"
          exact ⟨_, _, _, _, _, _, _, rfl, same_l so6 hS5, two6⟩
        · obtain ⟨twod, sod⟩ := twoc.book hj w r'
          have nown : ∀ x, own x → ¬ fp j x := fun x z z2 => nFU x (A.sub x z) (uf_of hj z2)
          have Ad := Ac.frame (fun x o z ex => (w.k x o ex).1 (nown x z)) (w.offG (G := fun x => F x ∨ UF fp L x) fun x z => .inr (uf_of hj z)) (fun x z => .inl (Ac.sub x z))
          have dvd := dvc.same (w.offG (G := fun x => F x ∨ UF fp L x) fun x z => .inr (uf_of hj z))
          have hSd := same_l sod hSc
          have hBd := SqL.of (K := K) twod.bl
          have hLd := SqL.of (K := K) twod.l
          walk_at "goz"
          refine ⟨fun σ H' => ∃ fp dl ds, σ = [some (.ref a), some (.ref BL), some (.ref L), some (.int (0 + (i : Int))), some (.int (j : Int)), some (.ref p), some v] ∧ SqL K (off (UF fp L) H') a (ns.map V.int) ∧ Two R K H' BL L fp b dl (SF ds) ds (46 + (i + 1)), ?_, ?_⟩
          · walk_at "goz"
            refine ⟨_, own, p, os, _, v, d, rfl, Ad, W, dvd.same off_same, sh, fun He se => ?_⟩
            have e1 : decide (V.str (refusalM ((ds j).foldl BS.did B0).M d) = V.str "") = false := dec_str_no e
            walk_at "goz"
            rw [show put1 (SF ds) j ((ds j).foldl BS.did B0) = SF ds from put1_id] at twod
            exact ⟨_, _, _, rfl, same_l (off_mono (fp := UF (put1 fp j fpd) L) se) hSd, (twod.same se).mono (by omega)⟩
          rintro σ Hf ⟨fp5, dl5, ds5, rfl, hS5, two5⟩
          have ixB5 := two5.ixB hj
          have ixL5 := two5.ixL hj
          have hB5 := SqL.of (K := K) two5.bl
          have hL5 := SqL.of (K := K) two5.l
          have dz5 := two5.len j hj
          walk_at "goz"
          refine ⟨fp5 j, b j, dl5 j, ds5 j, rfl, two5.rep j hj, (two5.dat j hj).dp.same off_same, two5.leg j hj, by omega, fun Hg fpg wg rg => ?_⟩
          obtain ⟨two6, so6⟩ := two5.book hj wg rg
          rw [show put1 (SF ds5) j ((ds5 j).foldl BS.did B0) = SF ds5 from put1_id] at two6
          walk_at "goz"
          exact ⟨_, _, _, _, _, _, _, rfl, same_l so6 hS5, two6⟩
      · have em : (List.map deedD (ds j)).isEmpty = false := by rw [eds]; cases ds0 <;> rfl
        rw [em]
        walk_at "goz"
        refine ⟨fp j, b j, v, (ds j).foldl BS.did B0, d, rfl, twoc.rep j hj, by omega, dvc.same (off_less fun x z => .inr (uf_of hj z)), sh, lo, ro, fun e Hd fpd r9 w r' => ?_, fun e Hd fpd r9 w r' => ?_⟩
        · obtain ⟨twod, sod⟩ := twoc.book hj w r'
          have nown : ∀ x, own x → ¬ fp j x := fun x z z2 => nFU x (A.sub x z) (uf_of hj z2)
          have Ad := Ac.frame (fun x o z ex => (w.k x o ex).1 (nown x z)) (w.offG (G := fun x => F x ∨ UF fp L x) fun x z => .inr (uf_of hj z)) (fun x z => .inl (Ac.sub x z))
          have dvd := dvc.same (w.offG (G := fun x => F x ∨ UF fp L x) fun x z => .inr (uf_of hj z))
          have hSd := same_l sod hSc
          have hBd := SqL.of (K := K) twod.bl
          have hLd := SqL.of (K := K) twod.l
          walk_at "goz"
          refine ⟨fun σ H' => ∃ fp dl ds, σ = [some (.ref a), some (.ref BL), some (.ref L), some (.int (0 + (i : Int))), some (.int (j : Int)), some (.ref p), some v] ∧ SqL K (off (UF fp L) H') a (ns.map V.int) ∧ Two R K H' BL L fp b dl (SF ds) ds (46 + (i + 1)), ?_, ?_⟩
          · walk_at "goz"
            refine ⟨_, own, p, os, _, v, d, rfl, Ad, W, dvd.same off_same, sh, fun He se => ?_⟩
            rw [e]
            have e0 : decide (V.str "" = V.str "") = true := decide_eq_true rfl
            have twoe := twod.same se
            have hSe := same_l (off_mono (fp := UF (put1 fp j fpd) L) se) hSd
            have dve := dvd.same (off_mono (fp := fun x => (F x ∨ UF fp L x) ∨ fpd x) se)
            have hLe := SqL.of (K := K) twoe.l
            obtain ⟨xs, exd, dx⟩ := (twoe.dat j hj).ex
            have xl := dx.length
            rw [List.length_map] at xl
            walk_at "goz"
            intro z2 hz2
            have sf : Same He _ := same_new (o := .lst [v]) hz2
            have ez2 : upd He z2 (.lst [v]) z2 = some (.lst [v]) := upd_same
            refine ⟨dl j, z2, xs, [v], rfl, rfl, sf _ _ exd, ez2, Evl.sz_of (by rw [xl]; show _ + 1 ≤ _; omega), fun a2 ha2 => ?_⟩
            have sg := sf.trans (same_new (o := .lst (xs ++ [v])) ha2)
            have ea2 : upd (upd He z2 (.lst [v])) a2 (.lst (xs ++ [v])) a2 = some (.lst (xs ++ [v])) := upd_same
            have twog := twoe.same sg
            have nU2 := twoe.mt.has.new (none_back sf ha2)
            have hSg := same_l (off_mono (fp := UF (put1 fp j fpd) L) sg) hSe
            have usub : ∀ x, UF (put1 fp j fpd) L x → (F x ∨ UF fp L x) ∨ fpd x := fun x z => by
              rcases uf_cases z with ⟨k, hk, z⟩ | z
              · by_cases c : k = j
                · subst c; rw [put1_same] at z; exact .inr z
                · rw [put1_ne c] at z; exact .inl (.inr (uf_of hk z))
              · exact .inl (.inr (.inr (.inr z)))
            have dvg := (dve.same (off_less usub)).same (off_mono (fp := UF (put1 fp j fpd) L) sg)
            have dxg := dx.same (off_mono (fp := UF (put1 fp j fpd) L) sg)
            generalize upd (upd He z2 (.lst [v])) a2 (.lst (xs ++ [v])) = Hg at *
            walk_at "goz"
            refine ⟨L, _, (j : Int), j, rfl, rfl, twog.l, ij2, ?_⟩
            obtain ⟨twoh, soh⟩ := (twog.mono (m := 46 + (i + 1)) (by omega)).deeds hj (ds' := ds j ++ [d]) ⟨nU2, xs ++ [v], ea2, by rw [List.map_append]; exact dxg.append (.cons dvg .nil)⟩ (legs_snoc lg ⟨sh, lo, e, ro.trans e⟩) (by rw [List.length_append]; show _ + 1 ≤ _; omega)
            have eS : put1 (SF ds) j (((ds j).foldl BS.did B0).did d) = SF (put1 ds j (ds j ++ [d])) := by rw [← put1_fold, List.foldl_append]; rfl
            rw [eS] at twoh
            exact ⟨_, _, _, rfl, same_l soh hSg, twoh⟩
          rintro σ Hf ⟨fp5, dl5, ds5, rfl, hS5, two5⟩
          have ixB5 := two5.ixB hj
          have ixL5 := two5.ixL hj
          have hB5 := SqL.of (K := K) two5.bl
          have hL5 := SqL.of (K := K) two5.l
          have dz5 := two5.len j hj
          walk_at "goz"
          refine ⟨fp5 j, b j, dl5 j, ds5 j, rfl, two5.rep j hj, (two5.dat j hj).dp.same off_same, two5.leg j hj, by omega, fun Hg fpg wg rg => ?_⟩
          obtain ⟨two6, so6⟩ := two5.book hj wg rg
          rw [show put1 (SF ds5) j ((ds5 j).foldl BS.did B0) = SF ds5 from put1_id] at two6
          walk_at "goz"
          exact ⟨_, _, _, _, _, _, _, rfl, same_l so6 hS5, two6⟩
        · obtain ⟨twod, sod⟩ := twoc.book hj w r'
          have nown : ∀ x, own x → ¬ fp j x := fun x z z2 => nFU x (A.sub x z) (uf_of hj z2)
          have Ad := Ac.frame (fun x o z ex => (w.k x o ex).1 (nown x z)) (w.offG (G := fun x => F x ∨ UF fp L x) fun x z => .inr (uf_of hj z)) (fun x z => .inl (Ac.sub x z))
          have dvd := dvc.same (w.offG (G := fun x => F x ∨ UF fp L x) fun x z => .inr (uf_of hj z))
          have hSd := same_l sod hSc
          have hBd := SqL.of (K := K) twod.bl
          have hLd := SqL.of (K := K) twod.l
          walk_at "goz"
          refine ⟨fun σ H' => ∃ fp dl ds, σ = [some (.ref a), some (.ref BL), some (.ref L), some (.int (0 + (i : Int))), some (.int (j : Int)), some (.ref p), some v] ∧ SqL K (off (UF fp L) H') a (ns.map V.int) ∧ Two R K H' BL L fp b dl (SF ds) ds (46 + (i + 1)), ?_, ?_⟩
          · walk_at "goz"
            refine ⟨_, own, p, os, _, v, d, rfl, Ad, W, dvd.same off_same, sh, fun He se => ?_⟩
            have e1 : decide (V.str (refusalM ((ds j).foldl BS.did B0).M d) = V.str "") = false := dec_str_no e
            walk_at "goz"
            rw [show put1 (SF ds) j ((ds j).foldl BS.did B0) = SF ds from put1_id] at twod
            exact ⟨_, _, _, rfl, same_l (off_mono (fp := UF (put1 fp j fpd) L) se) hSd, (twod.same se).mono (by omega)⟩
          rintro σ Hf ⟨fp5, dl5, ds5, rfl, hS5, two5⟩
          have ixB5 := two5.ixB hj
          have ixL5 := two5.ixL hj
          have hB5 := SqL.of (K := K) two5.bl
          have hL5 := SqL.of (K := K) two5.l
          have dz5 := two5.len j hj
          walk_at "goz"
          refine ⟨fp5 j, b j, dl5 j, ds5 j, rfl, two5.rep j hj, (two5.dat j hj).dp.same off_same, two5.leg j hj, by omega, fun Hg fpg wg rg => ?_⟩
          obtain ⟨two6, so6⟩ := two5.book hj wg rg
          rw [show put1 (SF ds5) j ((ds5 j).foldl BS.did B0) = SF ds5 from put1_id] at two6
          walk_at "goz"
          exact ⟨_, _, _, _, _, _, _, rfl, same_l so6 hS5, two6⟩
    · rintro σ H9 ⟨v3, v4, v5, v6, fp, dl, ds, rfl, hS9, two⟩
      have il : (((ns.map V.int).length : Int) / 2).toNat ≤ 31 := by omega
      generalize (((ns.map V.int).length : Int) / 2).toNat = m at *
      have two := two.mono (m := 90) (by omega)
      clear hS9 hS6 hS6'
      walk_at "goz"
      refine for_range (lo := 0) (n := 2) (fun j σ H' => ∃ v4 fp dl ds, σ = [some (.ref a), some (.ref BL), some (.ref L), v3, v4, v5, v6] ∧ Two R K H' BL L fp b dl (SF ds) ds 90 ∧ ∀ i, i < j → ds i = [])
        ⟨v4, fp, dl, ds, rfl, two, fun i hi => absurd hi (Nat.not_lt_zero i)⟩ ?_ ?_
      · rintro j σ Ha hj ⟨v4, fp, dl, ds, rfl, two, low⟩
        have z0 : (0 : Int) + (j : Int) = (j : Int) := Int.zero_add _
        rw [z0]
        walk_at "goz"
        refine ⟨fun m σ H' => ∃ fp dl ds, σ = [some (.ref a), some (.ref BL), some (.ref L), v3, some (.int (j : Int)), v5, v6] ∧ Two R K H' BL L fp b dl (SF ds) ds 90 ∧ (∀ i, i < j → ds i = []) ∧ (ds j).length = m, ⟨_, fp, dl, ds, rfl, two, low, rfl⟩, ?_⟩
        clear two low
        rintro m σ Hb ⟨fp, dl, ds, rfl, two, low, em⟩
        have ixB := two.ixB hj
        have ixL := two.ixL hj
        have dz := two.len j hj
        have lg := two.leg j hj
        have hBb := SqL.of (K := K) two.bl
        have hLb := SqL.of (K := K) two.l
        walk_at "goz"
        intro z1 hz1
        have sc := same_new (o := .lst []) hz1
        have ez : upd Hb z1 (.lst []) z1 = some (.lst []) := upd_same
        have twoc := two.same sc
        generalize upd Hb z1 (.lst []) = Hc at *
        have hBc := SqL.of (K := K) twoc.bl
        have hLc := SqL.of (K := K) twoc.l
        have shN : SeqAt.shaped (.list []) = true := by decide +kernel
        have ij2 : ixN [V.ref (dl 0), .ref (dl 1)].length (j : Int) = some j := ix_in hj
        refine ⟨_, _, (twoc.dat j hj).dp.same off_same, .lst (SqL.of ez) .nil, legs_shaped lg, shN, ?_⟩
        rw [eqv_nil]
        rcases List.eq_nil_or_concat (ds j) with eds | ⟨ds0, d0, eds⟩
        · have em2 : (List.map deedD (ds j)).isEmpty = true := by rw [eds]; rfl
          rw [em2]
          walk_at "goz"
          refine ⟨_, fp, dl, ds, rfl, twoc, fun i hi => ?_⟩
          by_cases c : i = j
          · rw [c]; exact eds
          · exact low i (by omega)
        · rw [List.concat_eq_append] at eds
          have em2 : (List.map deedD (ds j)).isEmpty = false := by rw [eds]; cases ds0 <;> rfl
          have emL : m = ds0.length + 1 := by rw [← em, eds, List.length_append]; rfl
          rw [em2]
          walk_at "goz"
          refine ⟨fun σ' H' => ∃ fp dl ds, σ' = [some (.ref a), some (.ref BL), some (.ref L), v3, some (.int (j : Int)), v5, v6] ∧ Two R K H' BL L fp b dl (SF ds) ds 90 ∧ (∀ i, i < j → ds i = []) ∧ (ds j).length = ds0.length, fun σ' H' ⟨fp, dl, ds, e1, e2, e3, e4⟩ => ⟨ds0.length, by omega, fp, dl, ds, e1, e2, e3, e4⟩, ?_⟩
          walk_at "goz"
          refine ⟨fp j, b j, dl j, ds0, d0, rfl, by rw [← eds]; exact twoc.rep j hj, by rw [← eds]; exact (twoc.dat j hj).dp.same (off_less fun x z => uf_of hj z), by rw [← eds]; exact lg, by rw [← eds]; omega, fun Hd fpd w r' => ?_⟩
          obtain ⟨twod, sod⟩ := twoc.book hj w r'
          have hBd := SqL.of (K := K) twod.bl
          have hLd := SqL.of (K := K) twod.l
          obtain ⟨xs, exd, dx⟩ := (twod.dat j hj).ex
          rw [eds, List.map_append] at dx
          obtain ⟨xs', x, rfl, dxs, _⟩ := dpAll_snoc dx
          have hXd := SqL.of (K := K) exd
          walk_at "goz"
          refine ⟨dl j, _, rfl, hXd, ?_⟩
          rw [cut_last]
          intro p2 hp2
          have se : Same Hd _ := same_new (o := .lst xs') hp2
          have ep2 : upd Hd p2 (.lst xs') p2 = some (.lst xs') := upd_same
          have twoe := twod.same se
          have nU2 := twod.mt.has.new hp2
          have dxe := dxs.same (off_mono (fp := UF (put1 fp j fpd) L) se)
          generalize upd Hd p2 (.lst xs') = He at *
          walk_at "goz"
          refine ⟨L, _, (j : Int), j, rfl, rfl, twoe.l, ij2, ?_⟩
          obtain ⟨twof, sof⟩ := twoe.deeds hj (ds' := ds0) ⟨nU2, xs', ep2, dxe⟩ (legs_init (by rw [← eds]; exact lg)) (by rw [eds, List.length_append] at dz; omega)
          rw [put1_fold] at twof
          exact ⟨_, _, _, rfl, twof, fun i hi => by rw [put1_ne (by omega)]; exact low i hi, by rw [put1_same]⟩
      · rintro σ Ha ⟨v4, fp, dl, ds, rfl, two, low⟩
        have e0 := low 0 (by decide)
        have e1 := low 1 (by decide)
        have r0 : R.Rep (fp 0) Ha (b 0) B0 := by have := two.rep 0 (by decide); unfold SF at this; rw [e0] at this; exact this
        have r1 : R.Rep (fp 1) Ha (b 1) B0 := by have := two.rep 1 (by decide); unfold SF at this; rw [e1] at this; exact this
        have hB := SqL.of (K := K) two.bl
        have i0 : atI [V.ref (b 0), .ref (b 1)] 0 = some (.ref (b 0)) := atI_nat (j := 0) rfl
        have i1 : atI [V.ref (b 0), .ref (b 1)] 1 = some (.ref (b 1)) := atI_nat (j := 1) rfl
        walk_at "goz"
        refine ⟨fp 0, b 0, rfl, r0, fun Hb fp' w => ?_⟩
        have hB2 := SqL.of (K := K) ((w.k _ _ two.bl).1 (two.nB 0 (by decide)).1)
        have r1' : R.Rep (fp 1) Hb (b 1) B0 := R.stays r1 (fun x o z e => (w.k x o e).1 fun z2 => two.dis 0 1 (by decide) (by decide) (by decide) x z2 z) fun x o t e => w.k.tups t e
        walk_at "goz"
        refine ⟨fp 1, b 1, rfl, r1', fun Hc fp'' w2 => ?_⟩
        exact q _
end
theorem all_mk {l : PySem.W.OpenLaw} {w : World} {K : PySem.W.Frag} {h : Heap} {mg : Str → Option Value} {fa : Addr} (X : K.In h) (G : h.Ns mainGlobals mg) (hfa : mg "law" = some (.ref fa)) {f1 : Addr} {oc1 kV1 dc1 pm1 cd1 ct1 : Value} {od1 an1 : Option Addr} {sl1 : Array (Option Value)} {f2 : Addr} {oc2 kV2 dc2 pm2 cd2 ct2 : Value} {od2 an2 : Option Addr} {sl2 : Array (Option Value)} {f3 : Addr} {oc3 kV3 dc3 pm3 cd3 ct3 : Value} {od3 an3 : Option Addr} {sl3 : Array (Option Value)} {f4 : Addr} {oc4 kV4 dc4 pm4 cd4 ct4 : Value} {od4 an4 : Option Addr} {sl4 : Array (Option Value)} {f5 : Addr} {oc5 kV5 dc5 pm5 cd5 ct5 : Value} {od5 an5 : Option Addr} {sl5 : Array (Option Value)} {f6 : Addr} {oc6 kV6 dc6 pm6 cd6 ct6 : Value} {od6 an6 : Option Addr} {sl6 : Array (Option Value)} {f7 : Addr} {oc7 kV7 dc7 pm7 cd7 ct7 : Value} {od7 an7 : Option Addr} {sl7 : Array (Option Value)} {f8 : Addr} {oc8 kV8 dc8 pm8 cd8 ct8 : Value} {od8 an8 : Option Addr} {sl8 : Array (Option Value)} {f9 : Addr} {oc9 kV9 dc9 pm9 cd9 ct9 : Value} {od9 an9 : Option Addr} {sl9 : Array (Option Value)} {f10 : Addr} {oc10 kV10 dc10 pm10 cd10 ct10 : Value} {od10 an10 : Option Addr} {sl10 : Array (Option Value)} {f11 : Addr} {oc11 kV11 dc11 pm11 cd11 ct11 : Value} {od11 an11 : Option Addr} {sl11 : Array (Option Value)} {f12 : Addr} {oc12 kV12 dc12 pm12 cd12 ct12 : Value} {od12 an12 : Option Addr} {sl12 : Array (Option Value)} {f13 : Addr} {oc13 kV13 dc13 pm13 cd13 ct13 : Value} {od13 an13 : Option Addr} {sl13 : Array (Option Value)} {f14 : Addr} {oc14 kV14 dc14 pm14 cd14 ct14 : Value} {od14 an14 : Option Addr} {sl14 : Array (Option Value)} {f15 : Addr} {oc15 kV15 dc15 pm15 cd15 ct15 : Value} {od15 an15 : Option Addr} {sl15 : Array (Option Value)} {f16 : Addr} {oc16 kV16 dc16 pm16 cd16 ct16 : Value} {od16 an16 : Option Addr} {sl16 : Array (Option Value)} {f17 : Addr} {oc17 kV17 dc17 pm17 cd17 ct17 : Value} {od17 an17 : Option Addr} {sl17 : Array (Option Value)} {f18 : Addr} {oc18 kV18 dc18 pm18 cd18 ct18 : Value} {od18 an18 : Option Addr} {sl18 : Array (Option Value)} {f19 : Addr} {oc19 kV19 dc19 pm19 cd19 ct19 : Value} {od19 an19 : Option Addr} {sl19 : Array (Option Value)} {f20 : Addr} {oc20 kV20 dc20 pm20 cd20 ct20 : Value} {od20 an20 : Option Addr} {sl20 : Array (Option Value)} {f21 : Addr} {oc21 kV21 dc21 pm21 cd21 ct21 : Value} {od21 an21 : Option Addr} {sl21 : Array (Option Value)} {f22 : Addr} {oc22 kV22 dc22 pm22 cd22 ct22 : Value} {od22 an22 : Option Addr} {sl22 : Array (Option Value)} {f23 : Addr} {oc23 kV23 dc23 pm23 cd23 ct23 : Value} {od23 an23 : Option Addr} {sl23 : Array (Option Value)} {f24 : Addr} {oc24 kV24 dc24 pm24 cd24 ct24 : Value} {od24 an24 : Option Addr} {sl24 : Array (Option Value)} {f25 : Addr} {oc25 kV25 dc25 pm25 cd25 ct25 : Value} {od25 an25 : Option Addr} {sl25 : Array (Option Value)} {f26 : Addr} {oc26 kV26 dc26 pm26 cd26 ct26 : Value} {od26 an26 : Option Addr} {sl26 : Array (Option Value)} {f27 : Addr} {oc27 kV27 dc27 pm27 cd27 ct27 : Value} {od27 an27 : Option Addr} {sl27 : Array (Option Value)} {f28 : Addr} {oc28 kV28 dc28 pm28 cd28 ct28 : Value} {od28 an28 : Option Addr} {sl28 : Array (Option Value)} {f29 : Addr} {oc29 kV29 dc29 pm29 cd29 ct29 : Value} {od29 an29 : Option Addr} {sl29 : Array (Option Value)} {f30 : Addr} {oc30 kV30 dc30 pm30 cd30 ct30 : Value} {od30 an30 : Option Addr} {sl30 : Array (Option Value)} {f31 : Addr} {oc31 kV31 dc31 pm31 cd31 ct31 : Value} {od31 an31 : Option Addr} {sl31 : Array (Option Value)} {f32 : Addr} {oc32 kV32 dc32 pm32 cd32 ct32 : Value} {od32 an32 : Option Addr} {sl32 : Array (Option Value)} {f33 : Addr} {oc33 kV33 dc33 pm33 cd33 ct33 : Value} {od33 an33 : Option Addr} {sl33 : Array (Option Value)} {f34 : Addr} {oc34 kV34 dc34 pm34 cd34 ct34 : Value} {od34 an34 : Option Addr} {sl34 : Array (Option Value)} {f35 : Addr} {oc35 kV35 dc35 pm35 cd35 ct35 : Value} {od35 an35 : Option Addr} {sl35 : Array (Option Value)} {f36 : Addr} {oc36 kV36 dc36 pm36 cd36 ct36 : Value} {od36 an36 : Option Addr} {sl36 : Array (Option Value)} {CL CO CB : Addr} {fLine___init__ : Addr} {ocLine___init__ kVLine___init__ dcLine___init__ pmLine___init__ cdLine___init__ ctLine___init__ : Value} {odLine___init__ anLine___init__ : Option Addr} {slLine___init__ : Array (Option Value)} {fLine_kept : Addr} {ocLine_kept kVLine_kept dcLine_kept pmLine_kept cdLine_kept ctLine_kept : Value} {odLine_kept anLine_kept : Option Addr} {slLine_kept : Array (Option Value)} {fLine_worth_kept : Addr} {ocLine_worth_kept kVLine_worth_kept dcLine_worth_kept pmLine_worth_kept cdLine_worth_kept ctLine_worth_kept : Value} {odLine_worth_kept anLine_worth_kept : Option Addr} {slLine_worth_kept : Array (Option Value)} {fLine_charge : Addr} {ocLine_charge kVLine_charge dcLine_charge pmLine_charge cdLine_charge ctLine_charge : Value} {odLine_charge anLine_charge : Option Addr} {slLine_charge : Array (Option Value)} {fLine_most : Addr} {ocLine_most kVLine_most dcLine_most pmLine_most cdLine_most ctLine_most : Value} {odLine_most anLine_most : Option Addr} {slLine_most : Array (Option Value)} {fLine_change : Addr} {ocLine_change kVLine_change dcLine_change pmLine_change cdLine_change ctLine_change : Value} {odLine_change anLine_change : Option Addr} {slLine_change : Array (Option Value)} {fLine_take_home : Addr} {ocLine_take_home kVLine_take_home dcLine_take_home pmLine_take_home cdLine_take_home ctLine_take_home : Value} {odLine_take_home anLine_take_home : Option Addr} {slLine_take_home : Array (Option Value)} {fLine_numbers : Addr} {ocLine_numbers kVLine_numbers dcLine_numbers pmLine_numbers cdLine_numbers ctLine_numbers : Value} {odLine_numbers anLine_numbers : Option Addr} {slLine_numbers : Array (Option Value)} {fOrder___init__ : Addr} {ocOrder___init__ kVOrder___init__ dcOrder___init__ pmOrder___init__ cdOrder___init__ ctOrder___init__ : Value} {odOrder___init__ anOrder___init__ : Option Addr} {slOrder___init__ : Array (Option Value)} {fOrder_owed : Addr} {ocOrder_owed kVOrder_owed dcOrder_owed pmOrder_owed cdOrder_owed ctOrder_owed : Value} {odOrder_owed anOrder_owed : Option Addr} {slOrder_owed : Array (Option Value)} {fOrder_overpaid : Addr} {ocOrder_overpaid kVOrder_overpaid dcOrder_overpaid pmOrder_overpaid cdOrder_overpaid ctOrder_overpaid : Value} {odOrder_overpaid anOrder_overpaid : Option Addr} {slOrder_overpaid : Array (Option Value)} {fOrder_change_line : Addr} {ocOrder_change_line kVOrder_change_line dcOrder_change_line pmOrder_change_line cdOrder_change_line ctOrder_change_line : Value} {odOrder_change_line anOrder_change_line : Option Addr} {slOrder_change_line : Array (Option Value)} {fOrder_receive : Addr} {ocOrder_receive kVOrder_receive dcOrder_receive pmOrder_receive cdOrder_receive ctOrder_receive : Value} {odOrder_receive anOrder_receive : Option Addr} {slOrder_receive : Array (Option Value)} {fBook___init__ : Addr} {ocBook___init__ kVBook___init__ dcBook___init__ pmBook___init__ cdBook___init__ ctBook___init__ : Value} {odBook___init__ anBook___init__ : Option Addr} {slBook___init__ : Array (Option Value)} {fBook_do : Addr} {ocBook_do kVBook_do dcBook_do pmBook_do cdBook_do ctBook_do : Value} {odBook_do anBook_do : Option Addr} {slBook_do : Array (Option Value)} {fBook__begin : Addr} {ocBook__begin kVBook__begin dcBook__begin pmBook__begin cdBook__begin ctBook__begin : Value} {odBook__begin anBook__begin : Option Addr} {slBook__begin : Array (Option Value)} {fBook__found : Addr} {ocBook__found kVBook__found dcBook__found pmBook__found cdBook__found ctBook__found : Value} {odBook__found anBook__found : Option Addr} {slBook__found : Array (Option Value)} {fBook__refuse : Addr} {ocBook__refuse kVBook__refuse dcBook__refuse pmBook__refuse cdBook__refuse ctBook__refuse : Value} {odBook__refuse anBook__refuse : Option Addr} {slBook__refuse : Array (Option Value)} {fBook__carry_out : Addr} {ocBook__carry_out kVBook__carry_out dcBook__carry_out pmBook__carry_out cdBook__carry_out ctBook__carry_out : Value} {odBook__carry_out anBook__carry_out : Option Addr} {slBook__carry_out : Array (Option Value)} {fLine_put_back : Addr} {ocLine_put_back kVLine_put_back dcLine_put_back pmLine_put_back cdLine_put_back ctLine_put_back : Value} {odLine_put_back anLine_put_back : Option Addr} {slLine_put_back : Array (Option Value)} {fLine_told : Addr} {ocLine_told kVLine_told dcLine_told pmLine_told cdLine_told ctLine_told : Value} {odLine_told anLine_told : Option Addr} {slLine_told : Array (Option Value)} {fOrder_take_back : Addr} {ocOrder_take_back kVOrder_take_back dcOrder_take_back pmOrder_take_back cdOrder_take_back ctOrder_take_back : Value} {odOrder_take_back anOrder_take_back : Option Addr} {slOrder_take_back : Array (Option Value)} {fBook_undo : Addr} {ocBook_undo kVBook_undo dcBook_undo pmBook_undo cdBook_undo ctBook_undo : Value} {odBook_undo anBook_undo : Option Addr} {slBook_undo : Array (Option Value)} {fBook_orders : Addr} {ocBook_orders kVBook_orders dcBook_orders pmBook_orders cdBook_orders ctBook_orders : Value} {odBook_orders anBook_orders : Option Addr} {slBook_orders : Array (Option Value)} {fBook_told : Addr} {ocBook_told kVBook_told dcBook_told pmBook_told cdBook_told ctBook_told : Value} {odBook_told anBook_told : Option Addr} {slBook_told : Array (Option Value)} {fBook_paid : Addr} {ocBook_paid kVBook_paid dcBook_paid pmBook_paid cdBook_paid ctBook_paid : Value} {odBook_paid anBook_paid : Option Addr} {slBook_paid : Array (Option Value)} {fBook_owed : Addr} {ocBook_owed kVBook_owed dcBook_owed pmBook_owed cdBook_owed ctBook_owed : Value} {odBook_owed anBook_owed : Option Addr} {slBook_owed : Array (Option Value)} {fBook_rows : Addr} {ocBook_rows kVBook_rows dcBook_rows pmBook_rows cdBook_rows ctBook_rows : Value} {odBook_rows anBook_rows : Option Addr} {slBook_rows : Array (Option Value)} {fBook_settled : Addr} {ocBook_settled kVBook_settled dcBook_settled pmBook_settled cdBook_settled ctBook_settled : Value} {odBook_settled anBook_settled : Option Addr} {slBook_settled : Array (Option Value)} {eNoDeed eNoLines eNoItem eNoNumber eFullBook eNoOrder eSameOrder eNoLine eTooMuch : Addr} {eNothingDone : Addr} {cF : Addr} {t_MOST_LINES t_MOST_LETTERS t_MOST_PIECES t_MOST_CENTS t_MOST_PACK t_MOST_ORDERS : Tok} {aD aF aD_0 aD_1 aD_2 aD_3 aD_4 aD_5 aD_6 aD_7 : Addr} {odD odF od_0 od_1 od_2 od_3 od_4 od_5 od_6 od_7 : Option Addr} {nD nF nd_0 nd_1 nd_2 nd_3 nd_4 nd_5 nd_6 nd_7 : Nat} {slD slF sd_0 sd_1 sd_2 sd_3 sd_4 sd_5 sd_6 sd_7 : Array (Option Value)} {uF1 uF2 uF3 uF4 u0 v0 u1 v1 u2 v2 u3 v3 u4 v4 u5 v5 u6 v6 u7 v7 : Tok} 
    (a1 : PySem.W.nsIn K mainGlobals "worth" = some (some (.ref f1))) (l1 : K.lookup f1 = some ⟨oc1, od1, .func (PySem.W.fnOf "worth" "worth" (defArgs s_worth) (defBody s_worth) (defScope s_worth) .none kV1 dc1 pm1 an1 cd1 ct1), sl1⟩) (c1 : PySem.W.codeIn K cd1 "worth" = true) (k1 : PySem.W.keepIn K (.ref f1) = true)
    (a2 : PySem.W.nsIn K mainGlobals "is_item" = some (some (.ref f2))) (l2 : K.lookup f2 = some ⟨oc2, od2, .func (PySem.W.fnOf "is_item" "is_item" (defArgs s_is_item) (defBody s_is_item) (defScope s_is_item) .none kV2 dc2 pm2 an2 cd2 ct2), sl2⟩) (c2 : PySem.W.codeIn K cd2 "is_item" = true) (k2 : PySem.W.keepIn K (.ref f2) = true)
    (a3 : PySem.W.nsIn K mainGlobals "refuse_lines" = some (some (.ref f3))) (l3 : K.lookup f3 = some ⟨oc3, od3, .func (PySem.W.fnOf "refuse_lines" "refuse_lines" (defArgs s_refuse_lines) (defBody s_refuse_lines) (defScope s_refuse_lines) .none kV3 dc3 pm3 an3 cd3 ct3), sl3⟩) (c3 : PySem.W.codeIn K cd3 "refuse_lines" = true) (k3 : PySem.W.keepIn K (.ref f3) = true)
    (a4 : PySem.W.nsIn K mainGlobals "matched" = some (some (.ref f4))) (l4 : K.lookup f4 = some ⟨oc4, od4, .func (PySem.W.fnOf "matched" "matched" (defArgs s_matched) (defBody s_matched) (defScope s_matched) .none kV4 dc4 pm4 an4 cd4 ct4), sl4⟩) (c4 : PySem.W.codeIn K cd4 "matched" = true) (k4 : PySem.W.keepIn K (.ref f4) = true)
    (a5 : PySem.W.nsIn K mainGlobals "_law_cell_at" = some (some (.ref f5))) (l5 : K.lookup f5 = some ⟨oc5, od5, .func (PySem.W.fnOf "_law_cell_at" "_law_cell_at" (defArgs s_cell_at) (defBody s_cell_at) (defScope s_cell_at) .none kV5 dc5 pm5 an5 cd5 ct5), sl5⟩) (c5 : PySem.W.codeIn K cd5 "_law_cell_at" = true) (k5 : PySem.W.keepIn K (.ref f5) = true)
    (a6 : PySem.W.nsIn K mainGlobals "_law_whole" = some (some (.ref f6))) (l6 : K.lookup f6 = some ⟨oc6, od6, .func (PySem.W.fnOf "_law_whole" "_law_whole" (defArgs s_whole) (defBody s_whole) (defScope s_whole) .none kV6 dc6 pm6 an6 cd6 ct6), sl6⟩) (c6 : PySem.W.codeIn K cd6 "_law_whole" = true) (k6 : PySem.W.keepIn K (.ref f6) = true)
    (a7 : PySem.W.nsIn K mainGlobals "_law_line_worth" = some (some (.ref f7))) (l7 : K.lookup f7 = some ⟨oc7, od7, .func (PySem.W.fnOf "_law_line_worth" "_law_line_worth" (defArgs s_line_worth) (defBody s_line_worth) (defScope s_line_worth) .none kV7 dc7 pm7 an7 cd7 ct7), sl7⟩) (c7 : PySem.W.codeIn K cd7 "_law_line_worth" = true) (k7 : PySem.W.keepIn K (.ref f7) = true)
    (a8 : PySem.W.nsIn K mainGlobals "_law_owed_by" = some (some (.ref f8))) (l8 : K.lookup f8 = some ⟨oc8, od8, .func (PySem.W.fnOf "_law_owed_by" "_law_owed_by" (defArgs s_owed_by) (defBody s_owed_by) (defScope s_owed_by) .none kV8 dc8 pm8 an8 cd8 ct8), sl8⟩) (c8 : PySem.W.codeIn K cd8 "_law_owed_by" = true) (k8 : PySem.W.keepIn K (.ref f8) = true)
    (a9 : PySem.W.nsIn K mainGlobals "_law_most" = some (some (.ref f9))) (l9 : K.lookup f9 = some ⟨oc9, od9, .func (PySem.W.fnOf "_law_most" "_law_most" (defArgs s_most) (defBody s_most) (defScope s_most) .none kV9 dc9 pm9 an9 cd9 ct9), sl9⟩) (c9 : PySem.W.codeIn K cd9 "_law_most" = true) (k9 : PySem.W.keepIn K (.ref f9) = true)
    (a10 : PySem.W.nsIn K mainGlobals "_law_place_by" = some (some (.ref f10))) (l10 : K.lookup f10 = some ⟨oc10, od10, .func (PySem.W.fnOf "_law_place_by" "_law_place_by" (defArgs s_place_by) (defBody s_place_by) (defScope s_place_by) .none kV10 dc10 pm10 an10 cd10 ct10), sl10⟩) (c10 : PySem.W.codeIn K cd10 "_law_place_by" = true) (k10 : PySem.W.keepIn K (.ref f10) = true)
    (a11 : PySem.W.nsIn K mainGlobals "_law_number_by" = some (some (.ref f11))) (l11 : K.lookup f11 = some ⟨oc11, od11, .func (PySem.W.fnOf "_law_number_by" "_law_number_by" (defArgs s_number_by) (defBody s_number_by) (defScope s_number_by) .none kV11 dc11 pm11 an11 cd11 ct11), sl11⟩) (c11 : PySem.W.codeIn K cd11 "_law_number_by" = true) (k11 : PySem.W.keepIn K (.ref f11) = true)
    (a12 : PySem.W.nsIn K mainGlobals "_law_item_by" = some (some (.ref f12))) (l12 : K.lookup f12 = some ⟨oc12, od12, .func (PySem.W.fnOf "_law_item_by" "_law_item_by" (defArgs s_item_by) (defBody s_item_by) (defScope s_item_by) .none kV12 dc12 pm12 an12 cd12 ct12), sl12⟩) (c12 : PySem.W.codeIn K cd12 "_law_item_by" = true) (k12 : PySem.W.keepIn K (.ref f12) = true)
    (a13 : PySem.W.nsIn K mainGlobals "_law_lines_by" = some (some (.ref f13))) (l13 : K.lookup f13 = some ⟨oc13, od13, .func (PySem.W.fnOf "_law_lines_by" "_law_lines_by" (defArgs s_lines_by) (defBody s_lines_by) (defScope s_lines_by) .none kV13 dc13 pm13 an13 cd13 ct13), sl13⟩) (c13 : PySem.W.codeIn K cd13 "_law_lines_by" = true) (k13 : PySem.W.keepIn K (.ref f13) = true)
    (a14 : PySem.W.nsIn K mainGlobals "_law_deed_by" = some (some (.ref f14))) (l14 : K.lookup f14 = some ⟨oc14, od14, .func (PySem.W.fnOf "_law_deed_by" "_law_deed_by" (defArgs s_deed_by) (defBody s_deed_by) (defScope s_deed_by) .none kV14 dc14 pm14 an14 cd14 ct14), sl14⟩) (c14 : PySem.W.codeIn K cd14 "_law_deed_by" = true) (k14 : PySem.W.keepIn K (.ref f14) = true)
    (a15 : PySem.W.nsIn K mainGlobals "_law_refusal" = some (some (.ref f15))) (l15 : K.lookup f15 = some ⟨oc15, od15, .func (PySem.W.fnOf "_law_refusal" "_law_refusal" (defArgs s_refusal) (defBody s_refusal) (defScope s_refusal) .none kV15 dc15 pm15 an15 cd15 ct15), sl15⟩) (c15 : PySem.W.codeIn K cd15 "_law_refusal" = true) (k15 : PySem.W.keepIn K (.ref f15) = true)
    (a16 : PySem.W.nsIn K mainGlobals "_law_turned" = some (some (.ref f16))) (l16 : K.lookup f16 = some ⟨oc16, od16, .func (PySem.W.fnOf "_law_turned" "_law_turned" (defArgs s_turned) (defBody s_turned) (defScope s_turned) .none kV16 dc16 pm16 an16 cd16 ct16), sl16⟩) (c16 : PySem.W.codeIn K cd16 "_law_turned" = true) (k16 : PySem.W.keepIn K (.ref f16) = true)
    (a17 : PySem.W.nsIn K mainGlobals "_law_step" = some (some (.ref f17))) (l17 : K.lookup f17 = some ⟨oc17, od17, .func (PySem.W.fnOf "_law_step" "_law_step" (defArgs s_step) (defBody s_step) (defScope s_step) .none kV17 dc17 pm17 an17 cd17 ct17), sl17⟩) (c17 : PySem.W.codeIn K cd17 "_law_step" = true) (k17 : PySem.W.keepIn K (.ref f17) = true)
    (a18 : PySem.W.nsIn K mainGlobals "_law_handed" = some (some (.ref f18))) (l18 : K.lookup f18 = some ⟨oc18, od18, .func (PySem.W.fnOf "_law_handed" "_law_handed" (defArgs s_handed) (defBody s_handed) (defScope s_handed) .none kV18 dc18 pm18 an18 cd18 ct18), sl18⟩) (c18 : PySem.W.codeIn K cd18 "_law_handed" = true) (k18 : PySem.W.keepIn K (.ref f18) = true)
    (a19 : PySem.W.nsIn K mainGlobals "_law_tried" = some (some (.ref f19))) (l19 : K.lookup f19 = some ⟨oc19, od19, .func (PySem.W.fnOf "_law_tried" "_law_tried" (defArgs s_tried) (defBody s_tried) (defScope s_tried) .none kV19 dc19 pm19 an19 cd19 ct19), sl19⟩) (c19 : PySem.W.codeIn K cd19 "_law_tried" = true) (k19 : PySem.W.keepIn K (.ref f19) = true)
    (a20 : PySem.W.nsIn K mainGlobals "_law_pairs_alike" = some (some (.ref f20))) (l20 : K.lookup f20 = some ⟨oc20, od20, .func (PySem.W.fnOf "_law_pairs_alike" "_law_pairs_alike" (defArgs s_pairs_alike) (defBody s_pairs_alike) (defScope s_pairs_alike) .none kV20 dc20 pm20 an20 cd20 ct20), sl20⟩) (c20 : PySem.W.codeIn K cd20 "_law_pairs_alike" = true) (k20 : PySem.W.keepIn K (.ref f20) = true)
    (a21 : PySem.W.nsIn K mainGlobals "_law_parts_alike" = some (some (.ref f21))) (l21 : K.lookup f21 = some ⟨oc21, od21, .func (PySem.W.fnOf "_law_parts_alike" "_law_parts_alike" (defArgs s_parts_alike) (defBody s_parts_alike) (defScope s_parts_alike) .none kV21 dc21 pm21 an21 cd21 ct21), sl21⟩) (c21 : PySem.W.codeIn K cd21 "_law_parts_alike" = true) (k21 : PySem.W.keepIn K (.ref f21) = true)
    (a22 : PySem.W.nsIn K mainGlobals "_law_deed_alike" = some (some (.ref f22))) (l22 : K.lookup f22 = some ⟨oc22, od22, .func (PySem.W.fnOf "_law_deed_alike" "_law_deed_alike" (defArgs s_deed_alike) (defBody s_deed_alike) (defScope s_deed_alike) .none kV22 dc22 pm22 an22 cd22 ct22), sl22⟩) (c22 : PySem.W.codeIn K cd22 "_law_deed_alike" = true) (k22 : PySem.W.keepIn K (.ref f22) = true)
    (a23 : PySem.W.nsIn K mainGlobals "_law_ahead_whole" = some (some (.ref f23))) (l23 : K.lookup f23 = some ⟨oc23, od23, .func (PySem.W.fnOf "_law_ahead_whole" "_law_ahead_whole" (defArgs s_ahead_whole) (defBody s_ahead_whole) (defScope s_ahead_whole) .none kV23 dc23 pm23 an23 cd23 ct23), sl23⟩) (c23 : PySem.W.codeIn K cd23 "_law_ahead_whole" = true) (k23 : PySem.W.keepIn K (.ref f23) = true)
    (a24 : PySem.W.nsIn K mainGlobals "_law_is_triple" = some (some (.ref f24))) (l24 : K.lookup f24 = some ⟨oc24, od24, .func (PySem.W.fnOf "_law_is_triple" "_law_is_triple" (defArgs s_is_triple) (defBody s_is_triple) (defScope s_is_triple) .none kV24 dc24 pm24 an24 cd24 ct24), sl24⟩) (c24 : PySem.W.codeIn K cd24 "_law_is_triple" = true) (k24 : PySem.W.keepIn K (.ref f24) = true)
    (a25 : PySem.W.nsIn K mainGlobals "_law_matched_well" = some (some (.ref f25))) (l25 : K.lookup f25 = some ⟨oc25, od25, .func (PySem.W.fnOf "_law_matched_well" "_law_matched_well" (defArgs s_matched_well) (defBody s_matched_well) (defScope s_matched_well) .none kV25 dc25 pm25 an25 cd25 ct25), sl25⟩) (c25 : PySem.W.codeIn K cd25 "_law_matched_well" = true) (k25 : PySem.W.keepIn K (.ref f25) = true)
    (a26 : PySem.W.nsIn K mainGlobals "_law_rows_alike" = some (some (.ref f26))) (l26 : K.lookup f26 = some ⟨oc26, od26, .func (PySem.W.fnOf "_law_rows_alike" "_law_rows_alike" (defArgs s_rows_alike) (defBody s_rows_alike) (defScope s_rows_alike) .none kV26 dc26 pm26 an26 cd26 ct26), sl26⟩) (c26 : PySem.W.codeIn K cd26 "_law_rows_alike" = true) (k26 : PySem.W.keepIn K (.ref f26) = true)
    (a27 : PySem.W.nsIn K mainGlobals "_law_lines_told" = some (some (.ref f27))) (l27 : K.lookup f27 = some ⟨oc27, od27, .func (PySem.W.fnOf "_law_lines_told" "_law_lines_told" (defArgs s_lines_told) (defBody s_lines_told) (defScope s_lines_told) .none kV27 dc27 pm27 an27 cd27 ct27), sl27⟩) (c27 : PySem.W.codeIn K cd27 "_law_lines_told" = true) (k27 : PySem.W.keepIn K (.ref f27) = true)
    (a28 : PySem.W.nsIn K mainGlobals "_law_stands" = some (some (.ref f28))) (l28 : K.lookup f28 = some ⟨oc28, od28, .func (PySem.W.fnOf "_law_stands" "_law_stands" (defArgs s_stands) (defBody s_stands) (defScope s_stands) .none kV28 dc28 pm28 an28 cd28 ct28), sl28⟩) (c28 : PySem.W.codeIn K cd28 "_law_stands" = true) (k28 : PySem.W.keepIn K (.ref f28) = true)
    (a29 : PySem.W.nsIn K mainGlobals "_law_model_of" = some (some (.ref f29))) (l29 : K.lookup f29 = some ⟨oc29, od29, .func (PySem.W.fnOf "_law_model_of" "_law_model_of" (defArgs s_model_of) (defBody s_model_of) (defScope s_model_of) .none kV29 dc29 pm29 an29 cd29 ct29), sl29⟩) (c29 : PySem.W.codeIn K cd29 "_law_model_of" = true) (k29 : PySem.W.keepIn K (.ref f29) = true)
    (a30 : PySem.W.nsIn K mainGlobals "_law_stands_by" = some (some (.ref f30))) (l30 : K.lookup f30 = some ⟨oc30, od30, .func (PySem.W.fnOf "_law_stands_by" "_law_stands_by" (defArgs s_stands_by) (defBody s_stands_by) (defScope s_stands_by) .none kV30 dc30 pm30 an30 cd30 ct30), sl30⟩) (c30 : PySem.W.codeIn K cd30 "_law_stands_by" = true) (k30 : PySem.W.keepIn K (.ref f30) = true)
    (a31 : PySem.W.nsIn K mainGlobals "_law_back" = some (some (.ref f31))) (l31 : K.lookup f31 = some ⟨oc31, od31, .func (PySem.W.fnOf "_law_back" "_law_back" (defArgs s_back) (defBody s_back) (defScope s_back) .none kV31 dc31 pm31 an31 cd31 ct31), sl31⟩) (c31 : PySem.W.codeIn K cd31 "_law_back" = true) (k31 : PySem.W.keepIn K (.ref f31) = true)
    (a32 : PySem.W.nsIn K mainGlobals "_law_of_one_class" = some (some (.ref f32))) (l32 : K.lookup f32 = some ⟨oc32, od32, .func (PySem.W.fnOf "_law_of_one_class" "_law_of_one_class" (defArgs s_of_one_class) (defBody s_of_one_class) (defScope s_of_one_class) .none kV32 dc32 pm32 an32 cd32 ct32), sl32⟩) (c32 : PySem.W.codeIn K cd32 "_law_of_one_class" = true) (k32 : PySem.W.keepIn K (.ref f32) = true)
    (a33 : PySem.W.nsIn K mainGlobals "_law_nothing" = some (some (.ref f33))) (l33 : K.lookup f33 = some ⟨oc33, od33, .func (PySem.W.fnOf "_law_nothing" "_law_nothing" (defArgs s_nothing) (defBody s_nothing) (defScope s_nothing) .none kV33 dc33 pm33 an33 cd33 ct33), sl33⟩) (c33 : PySem.W.codeIn K cd33 "_law_nothing" = true) (k33 : PySem.W.keepIn K (.ref f33) = true)
    (a34 : PySem.W.nsIn K mainGlobals "_law_done" = some (some (.ref f34))) (l34 : K.lookup f34 = some ⟨oc34, od34, .func (PySem.W.fnOf "_law_done" "_law_done" (defArgs s_done) (defBody s_done) (defScope s_done) .none kV34 dc34 pm34 an34 cd34 ct34), sl34⟩) (c34 : PySem.W.codeIn K cd34 "_law_done" = true) (k34 : PySem.W.keepIn K (.ref f34) = true)
    (a35 : PySem.W.nsIn K mainGlobals "_law_paid_first" = some (some (.ref f35))) (l35 : K.lookup f35 = some ⟨oc35, od35, .func (PySem.W.fnOf "_law_paid_first" "_law_paid_first" (defArgs s_paid_first) (defBody s_paid_first) (defScope s_paid_first) .none kV35 dc35 pm35 an35 cd35 ct35), sl35⟩) (c35 : PySem.W.codeIn K cd35 "_law_paid_first" = true) (k35 : PySem.W.keepIn K (.ref f35) = true)
    (a36 : PySem.W.nsIn K mainGlobals "law" = some (some (.ref f36))) (l36 : K.lookup f36 = some ⟨oc36, od36, .func (PySem.W.fnOf "law" "law" (defArgs s_law) (defBody s_law) (defScope s_law) .none kV36 dc36 pm36 an36 cd36 ct36), sl36⟩) (c36 : PySem.W.codeIn K cd36 "law" = true) (k36 : PySem.W.keepIn K (.ref f36) = true)
    (z1 : PySem.W.nsIn K mainGlobals "len" = some none)
    (z2 : PySem.W.nsIn K mainGlobals "isinstance" = some none)
    (z3 : PySem.W.nsIn K mainGlobals "int" = some none)
    (z4 : PySem.W.nsIn K mainGlobals "bool" = some none)
    (z5 : PySem.W.nsIn K mainGlobals "str" = some none)
    (z6 : PySem.W.nsIn K mainGlobals "list" = some none)
    (z7 : PySem.W.nsIn K mainGlobals "tuple" = some none)
    (z8 : PySem.W.nsIn K mainGlobals "range" = some none)
    (z9 : PySem.W.nsIn K mainGlobals "sum" = some none)
    (z10 : PySem.W.nsIn K mainGlobals "min" = some none)
    (z11 : PySem.W.nsIn K mainGlobals "max" = some none)
    (z12 : PySem.W.nsIn K mainGlobals "abs" = some none)
    (z13 : PySem.W.nsIn K mainGlobals "ValueError" = some none)
    (z14 : PySem.W.nsIn K mainGlobals "enumerate" = some none)
    (z15 : PySem.W.nsIn K mainGlobals "all" = some none)
    (gLine : PySem.W.nsIn K mainGlobals "Line" = some (some (.ref CL)))
    (pgLine : PySem.W.plainGet K CL Str.empty = true)
    (hdLine : PySem.W.hasDictIn K CL = true)
    (poLine : PySem.W.plainOver K CL = true)
    (saLine : PySem.W.findIn K (.ref CL) "__setattr__" = some (some (.builtin "object.__setattr__")))
    (mkLine : PySem.W.makesIn K CL = true)
    (kcLine : PySem.W.keepIn K (.ref CL) = true)
    (nLine_item : PySem.W.findIn K (.ref CL) "item" = some none)
    (nLine_ordered : PySem.W.findIn K (.ref CL) "ordered" = some none)
    (nLine_cents : PySem.W.findIn K (.ref CL) "cents" = some none)
    (nLine_pack : PySem.W.findIn K (.ref CL) "pack" = some none)
    (nLine_sent : PySem.W.findIn K (.ref CL) "sent" = some none)
    (nLine_home : PySem.W.findIn K (.ref CL) "home" = some none)
    (nLine_again : PySem.W.findIn K (.ref CL) "again" = some none)
    (nLine_credited : PySem.W.findIn K (.ref CL) "credited" = some none)
    (gOrder : PySem.W.nsIn K mainGlobals "Order" = some (some (.ref CO)))
    (pgOrder : PySem.W.plainGet K CO Str.empty = true)
    (hdOrder : PySem.W.hasDictIn K CO = true)
    (poOrder : PySem.W.plainOver K CO = true)
    (saOrder : PySem.W.findIn K (.ref CO) "__setattr__" = some (some (.builtin "object.__setattr__")))
    (mkOrder : PySem.W.makesIn K CO = true)
    (kcOrder : PySem.W.keepIn K (.ref CO) = true)
    (nOrder_lines : PySem.W.findIn K (.ref CO) "lines" = some none)
    (nOrder_received : PySem.W.findIn K (.ref CO) "received" = some none)
    (nOrder_changed : PySem.W.findIn K (.ref CO) "changed" = some none)
    (nOrder__ahead : PySem.W.findIn K (.ref CO) "_ahead" = some none)
    (gBook : PySem.W.nsIn K mainGlobals "Book" = some (some (.ref CB)))
    (pgBook : PySem.W.plainGet K CB Str.empty = true)
    (hdBook : PySem.W.hasDictIn K CB = true)
    (poBook : PySem.W.plainOver K CB = true)
    (saBook : PySem.W.findIn K (.ref CB) "__setattr__" = some (some (.builtin "object.__setattr__")))
    (mkBook : PySem.W.makesIn K CB = true)
    (kcBook : PySem.W.keepIn K (.ref CB) = true)
    (nBook__orders : PySem.W.findIn K (.ref CB) "_orders" = some none)
    (nBook__deeds : PySem.W.findIn K (.ref CB) "_deeds" = some none)
    (aLine___init__ : PySem.W.findIn K (.ref CL) "__init__" = some (some (.ref fLine___init__)))
    (iLine___init__ : PySem.W.isFn K (.ref fLine___init__) = true)
    (lLine___init__ : K.lookup fLine___init__ = some ⟨ocLine___init__, odLine___init__, .func (PySem.W.fnOf "__init__" "Line.__init__" (defArgs s_Line___init__) (defBody s_Line___init__) (defScope s_Line___init__) .none kVLine___init__ dcLine___init__ pmLine___init__ anLine___init__ cdLine___init__ ctLine___init__), slLine___init__⟩)
    (cLine___init__ : PySem.W.codeIn K cdLine___init__ "Line.__init__" = true)
    (kLine___init__ : PySem.W.keepIn K (.ref fLine___init__) = true)
    (aLine_kept : PySem.W.findIn K (.ref CL) "kept" = some (some (.ref fLine_kept)))
    (iLine_kept : PySem.W.isFn K (.ref fLine_kept) = true)
    (lLine_kept : K.lookup fLine_kept = some ⟨ocLine_kept, odLine_kept, .func (PySem.W.fnOf "kept" "Line.kept" (defArgs s_Line_kept) (defBody s_Line_kept) (defScope s_Line_kept) .none kVLine_kept dcLine_kept pmLine_kept anLine_kept cdLine_kept ctLine_kept), slLine_kept⟩)
    (cLine_kept : PySem.W.codeIn K cdLine_kept "Line.kept" = true)
    (kLine_kept : PySem.W.keepIn K (.ref fLine_kept) = true)
    (aLine_worth_kept : PySem.W.findIn K (.ref CL) "worth_kept" = some (some (.ref fLine_worth_kept)))
    (iLine_worth_kept : PySem.W.isFn K (.ref fLine_worth_kept) = true)
    (lLine_worth_kept : K.lookup fLine_worth_kept = some ⟨ocLine_worth_kept, odLine_worth_kept, .func (PySem.W.fnOf "worth_kept" "Line.worth_kept" (defArgs s_Line_worth_kept) (defBody s_Line_worth_kept) (defScope s_Line_worth_kept) .none kVLine_worth_kept dcLine_worth_kept pmLine_worth_kept anLine_worth_kept cdLine_worth_kept ctLine_worth_kept), slLine_worth_kept⟩)
    (cLine_worth_kept : PySem.W.codeIn K cdLine_worth_kept "Line.worth_kept" = true)
    (kLine_worth_kept : PySem.W.keepIn K (.ref fLine_worth_kept) = true)
    (aLine_charge : PySem.W.findIn K (.ref CL) "charge" = some (some (.ref fLine_charge)))
    (iLine_charge : PySem.W.isFn K (.ref fLine_charge) = true)
    (lLine_charge : K.lookup fLine_charge = some ⟨ocLine_charge, odLine_charge, .func (PySem.W.fnOf "charge" "Line.charge" (defArgs s_Line_charge) (defBody s_Line_charge) (defScope s_Line_charge) .none kVLine_charge dcLine_charge pmLine_charge anLine_charge cdLine_charge ctLine_charge), slLine_charge⟩)
    (cLine_charge : PySem.W.codeIn K cdLine_charge "Line.charge" = true)
    (kLine_charge : PySem.W.keepIn K (.ref fLine_charge) = true)
    (aLine_most : PySem.W.findIn K (.ref CL) "most" = some (some (.ref fLine_most)))
    (iLine_most : PySem.W.isFn K (.ref fLine_most) = true)
    (lLine_most : K.lookup fLine_most = some ⟨ocLine_most, odLine_most, .func (PySem.W.fnOf "most" "Line.most" (defArgs s_Line_most) (defBody s_Line_most) (defScope s_Line_most) .none kVLine_most dcLine_most pmLine_most anLine_most cdLine_most ctLine_most), slLine_most⟩)
    (cLine_most : PySem.W.codeIn K cdLine_most "Line.most" = true)
    (kLine_most : PySem.W.keepIn K (.ref fLine_most) = true)
    (aLine_change : PySem.W.findIn K (.ref CL) "change" = some (some (.ref fLine_change)))
    (iLine_change : PySem.W.isFn K (.ref fLine_change) = true)
    (lLine_change : K.lookup fLine_change = some ⟨ocLine_change, odLine_change, .func (PySem.W.fnOf "change" "Line.change" (defArgs s_Line_change) (defBody s_Line_change) (defScope s_Line_change) .none kVLine_change dcLine_change pmLine_change anLine_change cdLine_change ctLine_change), slLine_change⟩)
    (cLine_change : PySem.W.codeIn K cdLine_change "Line.change" = true)
    (kLine_change : PySem.W.keepIn K (.ref fLine_change) = true)
    (aLine_take_home : PySem.W.findIn K (.ref CL) "take_home" = some (some (.ref fLine_take_home)))
    (iLine_take_home : PySem.W.isFn K (.ref fLine_take_home) = true)
    (lLine_take_home : K.lookup fLine_take_home = some ⟨ocLine_take_home, odLine_take_home, .func (PySem.W.fnOf "take_home" "Line.take_home" (defArgs s_Line_take_home) (defBody s_Line_take_home) (defScope s_Line_take_home) .none kVLine_take_home dcLine_take_home pmLine_take_home anLine_take_home cdLine_take_home ctLine_take_home), slLine_take_home⟩)
    (cLine_take_home : PySem.W.codeIn K cdLine_take_home "Line.take_home" = true)
    (kLine_take_home : PySem.W.keepIn K (.ref fLine_take_home) = true)
    (aLine_numbers : PySem.W.findIn K (.ref CL) "numbers" = some (some (.ref fLine_numbers)))
    (iLine_numbers : PySem.W.isFn K (.ref fLine_numbers) = true)
    (lLine_numbers : K.lookup fLine_numbers = some ⟨ocLine_numbers, odLine_numbers, .func (PySem.W.fnOf "numbers" "Line.numbers" (defArgs s_Line_numbers) (defBody s_Line_numbers) (defScope s_Line_numbers) .none kVLine_numbers dcLine_numbers pmLine_numbers anLine_numbers cdLine_numbers ctLine_numbers), slLine_numbers⟩)
    (cLine_numbers : PySem.W.codeIn K cdLine_numbers "Line.numbers" = true)
    (kLine_numbers : PySem.W.keepIn K (.ref fLine_numbers) = true)
    (aOrder___init__ : PySem.W.findIn K (.ref CO) "__init__" = some (some (.ref fOrder___init__)))
    (iOrder___init__ : PySem.W.isFn K (.ref fOrder___init__) = true)
    (lOrder___init__ : K.lookup fOrder___init__ = some ⟨ocOrder___init__, odOrder___init__, .func (PySem.W.fnOf "__init__" "Order.__init__" (defArgs s_Order___init__) (defBody s_Order___init__) (defScope s_Order___init__) .none kVOrder___init__ dcOrder___init__ pmOrder___init__ anOrder___init__ cdOrder___init__ ctOrder___init__), slOrder___init__⟩)
    (cOrder___init__ : PySem.W.codeIn K cdOrder___init__ "Order.__init__" = true)
    (kOrder___init__ : PySem.W.keepIn K (.ref fOrder___init__) = true)
    (aOrder_owed : PySem.W.findIn K (.ref CO) "owed" = some (some (.ref fOrder_owed)))
    (iOrder_owed : PySem.W.isFn K (.ref fOrder_owed) = true)
    (lOrder_owed : K.lookup fOrder_owed = some ⟨ocOrder_owed, odOrder_owed, .func (PySem.W.fnOf "owed" "Order.owed" (defArgs s_Order_owed) (defBody s_Order_owed) (defScope s_Order_owed) .none kVOrder_owed dcOrder_owed pmOrder_owed anOrder_owed cdOrder_owed ctOrder_owed), slOrder_owed⟩)
    (cOrder_owed : PySem.W.codeIn K cdOrder_owed "Order.owed" = true)
    (kOrder_owed : PySem.W.keepIn K (.ref fOrder_owed) = true)
    (aOrder_overpaid : PySem.W.findIn K (.ref CO) "overpaid" = some (some (.ref fOrder_overpaid)))
    (iOrder_overpaid : PySem.W.isFn K (.ref fOrder_overpaid) = true)
    (lOrder_overpaid : K.lookup fOrder_overpaid = some ⟨ocOrder_overpaid, odOrder_overpaid, .func (PySem.W.fnOf "overpaid" "Order.overpaid" (defArgs s_Order_overpaid) (defBody s_Order_overpaid) (defScope s_Order_overpaid) .none kVOrder_overpaid dcOrder_overpaid pmOrder_overpaid anOrder_overpaid cdOrder_overpaid ctOrder_overpaid), slOrder_overpaid⟩)
    (cOrder_overpaid : PySem.W.codeIn K cdOrder_overpaid "Order.overpaid" = true)
    (kOrder_overpaid : PySem.W.keepIn K (.ref fOrder_overpaid) = true)
    (aOrder_change_line : PySem.W.findIn K (.ref CO) "change_line" = some (some (.ref fOrder_change_line)))
    (iOrder_change_line : PySem.W.isFn K (.ref fOrder_change_line) = true)
    (lOrder_change_line : K.lookup fOrder_change_line = some ⟨ocOrder_change_line, odOrder_change_line, .func (PySem.W.fnOf "change_line" "Order.change_line" (defArgs s_Order_change_line) (defBody s_Order_change_line) (defScope s_Order_change_line) .none kVOrder_change_line dcOrder_change_line pmOrder_change_line anOrder_change_line cdOrder_change_line ctOrder_change_line), slOrder_change_line⟩)
    (cOrder_change_line : PySem.W.codeIn K cdOrder_change_line "Order.change_line" = true)
    (kOrder_change_line : PySem.W.keepIn K (.ref fOrder_change_line) = true)
    (aOrder_receive : PySem.W.findIn K (.ref CO) "receive" = some (some (.ref fOrder_receive)))
    (iOrder_receive : PySem.W.isFn K (.ref fOrder_receive) = true)
    (lOrder_receive : K.lookup fOrder_receive = some ⟨ocOrder_receive, odOrder_receive, .func (PySem.W.fnOf "receive" "Order.receive" (defArgs s_Order_receive) (defBody s_Order_receive) (defScope s_Order_receive) .none kVOrder_receive dcOrder_receive pmOrder_receive anOrder_receive cdOrder_receive ctOrder_receive), slOrder_receive⟩)
    (cOrder_receive : PySem.W.codeIn K cdOrder_receive "Order.receive" = true)
    (kOrder_receive : PySem.W.keepIn K (.ref fOrder_receive) = true)
    (aBook___init__ : PySem.W.findIn K (.ref CB) "__init__" = some (some (.ref fBook___init__)))
    (iBook___init__ : PySem.W.isFn K (.ref fBook___init__) = true)
    (lBook___init__ : K.lookup fBook___init__ = some ⟨ocBook___init__, odBook___init__, .func (PySem.W.fnOf "__init__" "Book.__init__" (defArgs s_Book___init__) (defBody s_Book___init__) (defScope s_Book___init__) .none kVBook___init__ dcBook___init__ pmBook___init__ anBook___init__ cdBook___init__ ctBook___init__), slBook___init__⟩)
    (cBook___init__ : PySem.W.codeIn K cdBook___init__ "Book.__init__" = true)
    (kBook___init__ : PySem.W.keepIn K (.ref fBook___init__) = true)
    (aBook_do : PySem.W.findIn K (.ref CB) "do" = some (some (.ref fBook_do)))
    (iBook_do : PySem.W.isFn K (.ref fBook_do) = true)
    (lBook_do : K.lookup fBook_do = some ⟨ocBook_do, odBook_do, .func (PySem.W.fnOf "do" "Book.do" (defArgs s_Book_do) (defBody s_Book_do) (defScope s_Book_do) .none kVBook_do dcBook_do pmBook_do anBook_do cdBook_do ctBook_do), slBook_do⟩)
    (cBook_do : PySem.W.codeIn K cdBook_do "Book.do" = true)
    (kBook_do : PySem.W.keepIn K (.ref fBook_do) = true)
    (aBook__begin : PySem.W.findIn K (.ref CB) "_begin" = some (some (.ref fBook__begin)))
    (iBook__begin : PySem.W.isFn K (.ref fBook__begin) = true)
    (lBook__begin : K.lookup fBook__begin = some ⟨ocBook__begin, odBook__begin, .func (PySem.W.fnOf "_begin" "Book._begin" (defArgs s_Book__begin) (defBody s_Book__begin) (defScope s_Book__begin) .none kVBook__begin dcBook__begin pmBook__begin anBook__begin cdBook__begin ctBook__begin), slBook__begin⟩)
    (cBook__begin : PySem.W.codeIn K cdBook__begin "Book._begin" = true)
    (kBook__begin : PySem.W.keepIn K (.ref fBook__begin) = true)
    (aBook__found : PySem.W.findIn K (.ref CB) "_found" = some (some (.ref fBook__found)))
    (iBook__found : PySem.W.isFn K (.ref fBook__found) = true)
    (lBook__found : K.lookup fBook__found = some ⟨ocBook__found, odBook__found, .func (PySem.W.fnOf "_found" "Book._found" (defArgs s_Book__found) (defBody s_Book__found) (defScope s_Book__found) .none kVBook__found dcBook__found pmBook__found anBook__found cdBook__found ctBook__found), slBook__found⟩)
    (cBook__found : PySem.W.codeIn K cdBook__found "Book._found" = true)
    (kBook__found : PySem.W.keepIn K (.ref fBook__found) = true)
    (aBook__refuse : PySem.W.findIn K (.ref CB) "_refuse" = some (some (.ref fBook__refuse)))
    (iBook__refuse : PySem.W.isFn K (.ref fBook__refuse) = true)
    (lBook__refuse : K.lookup fBook__refuse = some ⟨ocBook__refuse, odBook__refuse, .func (PySem.W.fnOf "_refuse" "Book._refuse" (defArgs s_Book__refuse) (defBody s_Book__refuse) (defScope s_Book__refuse) .none kVBook__refuse dcBook__refuse pmBook__refuse anBook__refuse cdBook__refuse ctBook__refuse), slBook__refuse⟩)
    (cBook__refuse : PySem.W.codeIn K cdBook__refuse "Book._refuse" = true)
    (kBook__refuse : PySem.W.keepIn K (.ref fBook__refuse) = true)
    (aBook__carry_out : PySem.W.findIn K (.ref CB) "_carry_out" = some (some (.ref fBook__carry_out)))
    (iBook__carry_out : PySem.W.isFn K (.ref fBook__carry_out) = true)
    (lBook__carry_out : K.lookup fBook__carry_out = some ⟨ocBook__carry_out, odBook__carry_out, .func (PySem.W.fnOf "_carry_out" "Book._carry_out" (defArgs s_Book__carry_out) (defBody s_Book__carry_out) (defScope s_Book__carry_out) .none kVBook__carry_out dcBook__carry_out pmBook__carry_out anBook__carry_out cdBook__carry_out ctBook__carry_out), slBook__carry_out⟩)
    (cBook__carry_out : PySem.W.codeIn K cdBook__carry_out "Book._carry_out" = true)
    (kBook__carry_out : PySem.W.keepIn K (.ref fBook__carry_out) = true)
    (aLine_put_back : PySem.W.findIn K (.ref CL) "put_back" = some (some (.ref fLine_put_back)))
    (iLine_put_back : PySem.W.isFn K (.ref fLine_put_back) = true)
    (lLine_put_back : K.lookup fLine_put_back = some ⟨ocLine_put_back, odLine_put_back, .func (PySem.W.fnOf "put_back" "Line.put_back" (defArgs s_Line_put_back) (defBody s_Line_put_back) (defScope s_Line_put_back) .none kVLine_put_back dcLine_put_back pmLine_put_back anLine_put_back cdLine_put_back ctLine_put_back), slLine_put_back⟩)
    (cLine_put_back : PySem.W.codeIn K cdLine_put_back "Line.put_back" = true)
    (kLine_put_back : PySem.W.keepIn K (.ref fLine_put_back) = true)
    (aLine_told : PySem.W.findIn K (.ref CL) "told" = some (some (.ref fLine_told)))
    (iLine_told : PySem.W.isFn K (.ref fLine_told) = true)
    (lLine_told : K.lookup fLine_told = some ⟨ocLine_told, odLine_told, .func (PySem.W.fnOf "told" "Line.told" (defArgs s_Line_told) (defBody s_Line_told) (defScope s_Line_told) .none kVLine_told dcLine_told pmLine_told anLine_told cdLine_told ctLine_told), slLine_told⟩)
    (cLine_told : PySem.W.codeIn K cdLine_told "Line.told" = true)
    (kLine_told : PySem.W.keepIn K (.ref fLine_told) = true)
    (aOrder_take_back : PySem.W.findIn K (.ref CO) "take_back" = some (some (.ref fOrder_take_back)))
    (iOrder_take_back : PySem.W.isFn K (.ref fOrder_take_back) = true)
    (lOrder_take_back : K.lookup fOrder_take_back = some ⟨ocOrder_take_back, odOrder_take_back, .func (PySem.W.fnOf "take_back" "Order.take_back" (defArgs s_Order_take_back) (defBody s_Order_take_back) (defScope s_Order_take_back) .none kVOrder_take_back dcOrder_take_back pmOrder_take_back anOrder_take_back cdOrder_take_back ctOrder_take_back), slOrder_take_back⟩)
    (cOrder_take_back : PySem.W.codeIn K cdOrder_take_back "Order.take_back" = true)
    (kOrder_take_back : PySem.W.keepIn K (.ref fOrder_take_back) = true)
    (aBook_undo : PySem.W.findIn K (.ref CB) "undo" = some (some (.ref fBook_undo)))
    (iBook_undo : PySem.W.isFn K (.ref fBook_undo) = true)
    (lBook_undo : K.lookup fBook_undo = some ⟨ocBook_undo, odBook_undo, .func (PySem.W.fnOf "undo" "Book.undo" (defArgs s_Book_undo) (defBody s_Book_undo) (defScope s_Book_undo) .none kVBook_undo dcBook_undo pmBook_undo anBook_undo cdBook_undo ctBook_undo), slBook_undo⟩)
    (cBook_undo : PySem.W.codeIn K cdBook_undo "Book.undo" = true)
    (kBook_undo : PySem.W.keepIn K (.ref fBook_undo) = true)
    (aBook_orders : PySem.W.findIn K (.ref CB) "orders" = some (some (.ref fBook_orders)))
    (iBook_orders : PySem.W.isFn K (.ref fBook_orders) = true)
    (lBook_orders : K.lookup fBook_orders = some ⟨ocBook_orders, odBook_orders, .func (PySem.W.fnOf "orders" "Book.orders" (defArgs s_Book_orders) (defBody s_Book_orders) (defScope s_Book_orders) .none kVBook_orders dcBook_orders pmBook_orders anBook_orders cdBook_orders ctBook_orders), slBook_orders⟩)
    (cBook_orders : PySem.W.codeIn K cdBook_orders "Book.orders" = true)
    (kBook_orders : PySem.W.keepIn K (.ref fBook_orders) = true)
    (aBook_told : PySem.W.findIn K (.ref CB) "told" = some (some (.ref fBook_told)))
    (iBook_told : PySem.W.isFn K (.ref fBook_told) = true)
    (lBook_told : K.lookup fBook_told = some ⟨ocBook_told, odBook_told, .func (PySem.W.fnOf "told" "Book.told" (defArgs s_Book_told) (defBody s_Book_told) (defScope s_Book_told) .none kVBook_told dcBook_told pmBook_told anBook_told cdBook_told ctBook_told), slBook_told⟩)
    (cBook_told : PySem.W.codeIn K cdBook_told "Book.told" = true)
    (kBook_told : PySem.W.keepIn K (.ref fBook_told) = true)
    (aBook_paid : PySem.W.findIn K (.ref CB) "paid" = some (some (.ref fBook_paid)))
    (iBook_paid : PySem.W.isFn K (.ref fBook_paid) = true)
    (lBook_paid : K.lookup fBook_paid = some ⟨ocBook_paid, odBook_paid, .func (PySem.W.fnOf "paid" "Book.paid" (defArgs s_Book_paid) (defBody s_Book_paid) (defScope s_Book_paid) .none kVBook_paid dcBook_paid pmBook_paid anBook_paid cdBook_paid ctBook_paid), slBook_paid⟩)
    (cBook_paid : PySem.W.codeIn K cdBook_paid "Book.paid" = true)
    (kBook_paid : PySem.W.keepIn K (.ref fBook_paid) = true)
    (aBook_owed : PySem.W.findIn K (.ref CB) "owed" = some (some (.ref fBook_owed)))
    (iBook_owed : PySem.W.isFn K (.ref fBook_owed) = true)
    (lBook_owed : K.lookup fBook_owed = some ⟨ocBook_owed, odBook_owed, .func (PySem.W.fnOf "owed" "Book.owed" (defArgs s_Book_owed) (defBody s_Book_owed) (defScope s_Book_owed) .none kVBook_owed dcBook_owed pmBook_owed anBook_owed cdBook_owed ctBook_owed), slBook_owed⟩)
    (cBook_owed : PySem.W.codeIn K cdBook_owed "Book.owed" = true)
    (kBook_owed : PySem.W.keepIn K (.ref fBook_owed) = true)
    (aBook_rows : PySem.W.findIn K (.ref CB) "rows" = some (some (.ref fBook_rows)))
    (iBook_rows : PySem.W.isFn K (.ref fBook_rows) = true)
    (lBook_rows : K.lookup fBook_rows = some ⟨ocBook_rows, odBook_rows, .func (PySem.W.fnOf "rows" "Book.rows" (defArgs s_Book_rows) (defBody s_Book_rows) (defScope s_Book_rows) .none kVBook_rows dcBook_rows pmBook_rows anBook_rows cdBook_rows ctBook_rows), slBook_rows⟩)
    (cBook_rows : PySem.W.codeIn K cdBook_rows "Book.rows" = true)
    (kBook_rows : PySem.W.keepIn K (.ref fBook_rows) = true)
    (aBook_settled : PySem.W.findIn K (.ref CB) "settled" = some (some (.ref fBook_settled)))
    (iBook_settled : PySem.W.isFn K (.ref fBook_settled) = true)
    (lBook_settled : K.lookup fBook_settled = some ⟨ocBook_settled, odBook_settled, .func (PySem.W.fnOf "settled" "Book.settled" (defArgs s_Book_settled) (defBody s_Book_settled) (defScope s_Book_settled) .none kVBook_settled dcBook_settled pmBook_settled anBook_settled cdBook_settled ctBook_settled), slBook_settled⟩)
    (cBook_settled : PySem.W.codeIn K cdBook_settled "Book.settled" = true)
    (kBook_settled : PySem.W.keepIn K (.ref fBook_settled) = true)
    (gNoDeed : PySem.W.nsIn K mainGlobals "NoDeed" = some (some (.ref eNoDeed)))
    (qNoDeed : PySem.W.excIn K eNoDeed [.type "ValueError", .type "Exception", .type "BaseException", .type "object"] "ValueError.__new__" = true)
    (kpNoDeed : PySem.W.keepIn K (.ref eNoDeed) = true)
    (sbNoDeed : PySem.W.subIn K (.ref eNoDeed) (.type "BaseException") = some true)
    (tyNoDeed : PySem.W.typeIn K (.ref eNoDeed) = some (.type "type"))
    (icNoDeed : PySem.W.isClsIn K eNoDeed = true)
    (gNoLines : PySem.W.nsIn K mainGlobals "NoLines" = some (some (.ref eNoLines)))
    (qNoLines : PySem.W.excIn K eNoLines [.type "ValueError", .type "Exception", .type "BaseException", .type "object"] "ValueError.__new__" = true)
    (kpNoLines : PySem.W.keepIn K (.ref eNoLines) = true)
    (sbNoLines : PySem.W.subIn K (.ref eNoLines) (.type "BaseException") = some true)
    (tyNoLines : PySem.W.typeIn K (.ref eNoLines) = some (.type "type"))
    (icNoLines : PySem.W.isClsIn K eNoLines = true)
    (gNoItem : PySem.W.nsIn K mainGlobals "NoItem" = some (some (.ref eNoItem)))
    (qNoItem : PySem.W.excIn K eNoItem [.type "ValueError", .type "Exception", .type "BaseException", .type "object"] "ValueError.__new__" = true)
    (kpNoItem : PySem.W.keepIn K (.ref eNoItem) = true)
    (sbNoItem : PySem.W.subIn K (.ref eNoItem) (.type "BaseException") = some true)
    (tyNoItem : PySem.W.typeIn K (.ref eNoItem) = some (.type "type"))
    (icNoItem : PySem.W.isClsIn K eNoItem = true)
    (gNoNumber : PySem.W.nsIn K mainGlobals "NoNumber" = some (some (.ref eNoNumber)))
    (qNoNumber : PySem.W.excIn K eNoNumber [.type "ValueError", .type "Exception", .type "BaseException", .type "object"] "ValueError.__new__" = true)
    (kpNoNumber : PySem.W.keepIn K (.ref eNoNumber) = true)
    (sbNoNumber : PySem.W.subIn K (.ref eNoNumber) (.type "BaseException") = some true)
    (tyNoNumber : PySem.W.typeIn K (.ref eNoNumber) = some (.type "type"))
    (icNoNumber : PySem.W.isClsIn K eNoNumber = true)
    (gFullBook : PySem.W.nsIn K mainGlobals "FullBook" = some (some (.ref eFullBook)))
    (qFullBook : PySem.W.excIn K eFullBook [.type "ValueError", .type "Exception", .type "BaseException", .type "object"] "ValueError.__new__" = true)
    (kpFullBook : PySem.W.keepIn K (.ref eFullBook) = true)
    (sbFullBook : PySem.W.subIn K (.ref eFullBook) (.type "BaseException") = some true)
    (tyFullBook : PySem.W.typeIn K (.ref eFullBook) = some (.type "type"))
    (icFullBook : PySem.W.isClsIn K eFullBook = true)
    (gNoOrder : PySem.W.nsIn K mainGlobals "NoOrder" = some (some (.ref eNoOrder)))
    (qNoOrder : PySem.W.excIn K eNoOrder [.type "ValueError", .type "Exception", .type "BaseException", .type "object"] "ValueError.__new__" = true)
    (kpNoOrder : PySem.W.keepIn K (.ref eNoOrder) = true)
    (sbNoOrder : PySem.W.subIn K (.ref eNoOrder) (.type "BaseException") = some true)
    (tyNoOrder : PySem.W.typeIn K (.ref eNoOrder) = some (.type "type"))
    (icNoOrder : PySem.W.isClsIn K eNoOrder = true)
    (gSameOrder : PySem.W.nsIn K mainGlobals "SameOrder" = some (some (.ref eSameOrder)))
    (qSameOrder : PySem.W.excIn K eSameOrder [.type "ValueError", .type "Exception", .type "BaseException", .type "object"] "ValueError.__new__" = true)
    (kpSameOrder : PySem.W.keepIn K (.ref eSameOrder) = true)
    (sbSameOrder : PySem.W.subIn K (.ref eSameOrder) (.type "BaseException") = some true)
    (tySameOrder : PySem.W.typeIn K (.ref eSameOrder) = some (.type "type"))
    (icSameOrder : PySem.W.isClsIn K eSameOrder = true)
    (gNoLine : PySem.W.nsIn K mainGlobals "NoLine" = some (some (.ref eNoLine)))
    (qNoLine : PySem.W.excIn K eNoLine [.type "ValueError", .type "Exception", .type "BaseException", .type "object"] "ValueError.__new__" = true)
    (kpNoLine : PySem.W.keepIn K (.ref eNoLine) = true)
    (sbNoLine : PySem.W.subIn K (.ref eNoLine) (.type "BaseException") = some true)
    (tyNoLine : PySem.W.typeIn K (.ref eNoLine) = some (.type "type"))
    (icNoLine : PySem.W.isClsIn K eNoLine = true)
    (gTooMuch : PySem.W.nsIn K mainGlobals "TooMuch" = some (some (.ref eTooMuch)))
    (qTooMuch : PySem.W.excIn K eTooMuch [.type "ValueError", .type "Exception", .type "BaseException", .type "object"] "ValueError.__new__" = true)
    (kpTooMuch : PySem.W.keepIn K (.ref eTooMuch) = true)
    (sbTooMuch : PySem.W.subIn K (.ref eTooMuch) (.type "BaseException") = some true)
    (tyTooMuch : PySem.W.typeIn K (.ref eTooMuch) = some (.type "type"))
    (icTooMuch : PySem.W.isClsIn K eTooMuch = true)
    (xNoDeed_NoDeed : PySem.W.subIn K (.ref eNoDeed) (.ref eNoDeed) = some true)
    (xNoDeed_NoLines : PySem.W.subIn K (.ref eNoDeed) (.ref eNoLines) = some false)
    (xNoDeed_NoItem : PySem.W.subIn K (.ref eNoDeed) (.ref eNoItem) = some false)
    (xNoDeed_NoNumber : PySem.W.subIn K (.ref eNoDeed) (.ref eNoNumber) = some false)
    (xNoDeed_FullBook : PySem.W.subIn K (.ref eNoDeed) (.ref eFullBook) = some false)
    (xNoDeed_NoOrder : PySem.W.subIn K (.ref eNoDeed) (.ref eNoOrder) = some false)
    (xNoDeed_SameOrder : PySem.W.subIn K (.ref eNoDeed) (.ref eSameOrder) = some false)
    (xNoDeed_NoLine : PySem.W.subIn K (.ref eNoDeed) (.ref eNoLine) = some false)
    (xNoDeed_TooMuch : PySem.W.subIn K (.ref eNoDeed) (.ref eTooMuch) = some false)
    (xNoLines_NoDeed : PySem.W.subIn K (.ref eNoLines) (.ref eNoDeed) = some false)
    (xNoLines_NoLines : PySem.W.subIn K (.ref eNoLines) (.ref eNoLines) = some true)
    (xNoLines_NoItem : PySem.W.subIn K (.ref eNoLines) (.ref eNoItem) = some false)
    (xNoLines_NoNumber : PySem.W.subIn K (.ref eNoLines) (.ref eNoNumber) = some false)
    (xNoLines_FullBook : PySem.W.subIn K (.ref eNoLines) (.ref eFullBook) = some false)
    (xNoLines_NoOrder : PySem.W.subIn K (.ref eNoLines) (.ref eNoOrder) = some false)
    (xNoLines_SameOrder : PySem.W.subIn K (.ref eNoLines) (.ref eSameOrder) = some false)
    (xNoLines_NoLine : PySem.W.subIn K (.ref eNoLines) (.ref eNoLine) = some false)
    (xNoLines_TooMuch : PySem.W.subIn K (.ref eNoLines) (.ref eTooMuch) = some false)
    (xNoItem_NoDeed : PySem.W.subIn K (.ref eNoItem) (.ref eNoDeed) = some false)
    (xNoItem_NoLines : PySem.W.subIn K (.ref eNoItem) (.ref eNoLines) = some false)
    (xNoItem_NoItem : PySem.W.subIn K (.ref eNoItem) (.ref eNoItem) = some true)
    (xNoItem_NoNumber : PySem.W.subIn K (.ref eNoItem) (.ref eNoNumber) = some false)
    (xNoItem_FullBook : PySem.W.subIn K (.ref eNoItem) (.ref eFullBook) = some false)
    (xNoItem_NoOrder : PySem.W.subIn K (.ref eNoItem) (.ref eNoOrder) = some false)
    (xNoItem_SameOrder : PySem.W.subIn K (.ref eNoItem) (.ref eSameOrder) = some false)
    (xNoItem_NoLine : PySem.W.subIn K (.ref eNoItem) (.ref eNoLine) = some false)
    (xNoItem_TooMuch : PySem.W.subIn K (.ref eNoItem) (.ref eTooMuch) = some false)
    (xNoNumber_NoDeed : PySem.W.subIn K (.ref eNoNumber) (.ref eNoDeed) = some false)
    (xNoNumber_NoLines : PySem.W.subIn K (.ref eNoNumber) (.ref eNoLines) = some false)
    (xNoNumber_NoItem : PySem.W.subIn K (.ref eNoNumber) (.ref eNoItem) = some false)
    (xNoNumber_NoNumber : PySem.W.subIn K (.ref eNoNumber) (.ref eNoNumber) = some true)
    (xNoNumber_FullBook : PySem.W.subIn K (.ref eNoNumber) (.ref eFullBook) = some false)
    (xNoNumber_NoOrder : PySem.W.subIn K (.ref eNoNumber) (.ref eNoOrder) = some false)
    (xNoNumber_SameOrder : PySem.W.subIn K (.ref eNoNumber) (.ref eSameOrder) = some false)
    (xNoNumber_NoLine : PySem.W.subIn K (.ref eNoNumber) (.ref eNoLine) = some false)
    (xNoNumber_TooMuch : PySem.W.subIn K (.ref eNoNumber) (.ref eTooMuch) = some false)
    (xFullBook_NoDeed : PySem.W.subIn K (.ref eFullBook) (.ref eNoDeed) = some false)
    (xFullBook_NoLines : PySem.W.subIn K (.ref eFullBook) (.ref eNoLines) = some false)
    (xFullBook_NoItem : PySem.W.subIn K (.ref eFullBook) (.ref eNoItem) = some false)
    (xFullBook_NoNumber : PySem.W.subIn K (.ref eFullBook) (.ref eNoNumber) = some false)
    (xFullBook_FullBook : PySem.W.subIn K (.ref eFullBook) (.ref eFullBook) = some true)
    (xFullBook_NoOrder : PySem.W.subIn K (.ref eFullBook) (.ref eNoOrder) = some false)
    (xFullBook_SameOrder : PySem.W.subIn K (.ref eFullBook) (.ref eSameOrder) = some false)
    (xFullBook_NoLine : PySem.W.subIn K (.ref eFullBook) (.ref eNoLine) = some false)
    (xFullBook_TooMuch : PySem.W.subIn K (.ref eFullBook) (.ref eTooMuch) = some false)
    (xNoOrder_NoDeed : PySem.W.subIn K (.ref eNoOrder) (.ref eNoDeed) = some false)
    (xNoOrder_NoLines : PySem.W.subIn K (.ref eNoOrder) (.ref eNoLines) = some false)
    (xNoOrder_NoItem : PySem.W.subIn K (.ref eNoOrder) (.ref eNoItem) = some false)
    (xNoOrder_NoNumber : PySem.W.subIn K (.ref eNoOrder) (.ref eNoNumber) = some false)
    (xNoOrder_FullBook : PySem.W.subIn K (.ref eNoOrder) (.ref eFullBook) = some false)
    (xNoOrder_NoOrder : PySem.W.subIn K (.ref eNoOrder) (.ref eNoOrder) = some true)
    (xNoOrder_SameOrder : PySem.W.subIn K (.ref eNoOrder) (.ref eSameOrder) = some false)
    (xNoOrder_NoLine : PySem.W.subIn K (.ref eNoOrder) (.ref eNoLine) = some false)
    (xNoOrder_TooMuch : PySem.W.subIn K (.ref eNoOrder) (.ref eTooMuch) = some false)
    (xSameOrder_NoDeed : PySem.W.subIn K (.ref eSameOrder) (.ref eNoDeed) = some false)
    (xSameOrder_NoLines : PySem.W.subIn K (.ref eSameOrder) (.ref eNoLines) = some false)
    (xSameOrder_NoItem : PySem.W.subIn K (.ref eSameOrder) (.ref eNoItem) = some false)
    (xSameOrder_NoNumber : PySem.W.subIn K (.ref eSameOrder) (.ref eNoNumber) = some false)
    (xSameOrder_FullBook : PySem.W.subIn K (.ref eSameOrder) (.ref eFullBook) = some false)
    (xSameOrder_NoOrder : PySem.W.subIn K (.ref eSameOrder) (.ref eNoOrder) = some false)
    (xSameOrder_SameOrder : PySem.W.subIn K (.ref eSameOrder) (.ref eSameOrder) = some true)
    (xSameOrder_NoLine : PySem.W.subIn K (.ref eSameOrder) (.ref eNoLine) = some false)
    (xSameOrder_TooMuch : PySem.W.subIn K (.ref eSameOrder) (.ref eTooMuch) = some false)
    (xNoLine_NoDeed : PySem.W.subIn K (.ref eNoLine) (.ref eNoDeed) = some false)
    (xNoLine_NoLines : PySem.W.subIn K (.ref eNoLine) (.ref eNoLines) = some false)
    (xNoLine_NoItem : PySem.W.subIn K (.ref eNoLine) (.ref eNoItem) = some false)
    (xNoLine_NoNumber : PySem.W.subIn K (.ref eNoLine) (.ref eNoNumber) = some false)
    (xNoLine_FullBook : PySem.W.subIn K (.ref eNoLine) (.ref eFullBook) = some false)
    (xNoLine_NoOrder : PySem.W.subIn K (.ref eNoLine) (.ref eNoOrder) = some false)
    (xNoLine_SameOrder : PySem.W.subIn K (.ref eNoLine) (.ref eSameOrder) = some false)
    (xNoLine_NoLine : PySem.W.subIn K (.ref eNoLine) (.ref eNoLine) = some true)
    (xNoLine_TooMuch : PySem.W.subIn K (.ref eNoLine) (.ref eTooMuch) = some false)
    (xTooMuch_NoDeed : PySem.W.subIn K (.ref eTooMuch) (.ref eNoDeed) = some false)
    (xTooMuch_NoLines : PySem.W.subIn K (.ref eTooMuch) (.ref eNoLines) = some false)
    (xTooMuch_NoItem : PySem.W.subIn K (.ref eTooMuch) (.ref eNoItem) = some false)
    (xTooMuch_NoNumber : PySem.W.subIn K (.ref eTooMuch) (.ref eNoNumber) = some false)
    (xTooMuch_FullBook : PySem.W.subIn K (.ref eTooMuch) (.ref eFullBook) = some false)
    (xTooMuch_NoOrder : PySem.W.subIn K (.ref eTooMuch) (.ref eNoOrder) = some false)
    (xTooMuch_SameOrder : PySem.W.subIn K (.ref eTooMuch) (.ref eSameOrder) = some false)
    (xTooMuch_NoLine : PySem.W.subIn K (.ref eTooMuch) (.ref eNoLine) = some false)
    (xTooMuch_TooMuch : PySem.W.subIn K (.ref eTooMuch) (.ref eTooMuch) = some true)
    (gNothingDone : PySem.W.nsIn K mainGlobals "NothingDone" = some (some (.ref eNothingDone)))
    (qNothingDone : PySem.W.excIn K eNothingDone [.type "ValueError", .type "Exception", .type "BaseException", .type "object"] "ValueError.__new__" = true)
    (kpNothingDone : PySem.W.keepIn K (.ref eNothingDone) = true)
    (sbNothingDone : PySem.W.subIn K (.ref eNothingDone) (.type "BaseException") = some true)
    (tyNothingDone : PySem.W.typeIn K (.ref eNothingDone) = some (.type "type"))
    (icNothingDone : PySem.W.isClsIn K eNothingDone = true)
    (spC : PySem.W.specialIn K (.builtin "object.__class__") "__get__" = some (some (.builtin "getset_descriptor.__get__")))
    (tkC : PySem.W.takesIn K (.builtin "object.__class__") = some true)
    (gFlowError : PySem.W.nsIn K mainGlobals "FlowError" = some (some (.ref cF)))
    (sbFlow : PySem.W.subIn K (.ref cF) (.type "BaseException") = some true)
    (icFlow : PySem.W.isClsIn K cF = true)
    (tyFlow : PySem.W.typeIn K (.ref cF) = some (.type "type"))
    (xNothingDone_NothingDone : PySem.W.subIn K (.ref eNothingDone) (.ref eNothingDone) = some true)
    (xNothingDone_NoDeed : PySem.W.subIn K (.ref eNothingDone) (.ref eNoDeed) = some false)
    (xNothingDone_NoLines : PySem.W.subIn K (.ref eNothingDone) (.ref eNoLines) = some false)
    (xNothingDone_NoItem : PySem.W.subIn K (.ref eNothingDone) (.ref eNoItem) = some false)
    (xNothingDone_NoNumber : PySem.W.subIn K (.ref eNothingDone) (.ref eNoNumber) = some false)
    (xNothingDone_FullBook : PySem.W.subIn K (.ref eNothingDone) (.ref eFullBook) = some false)
    (xNothingDone_NoOrder : PySem.W.subIn K (.ref eNothingDone) (.ref eNoOrder) = some false)
    (xNothingDone_SameOrder : PySem.W.subIn K (.ref eNothingDone) (.ref eSameOrder) = some false)
    (xNothingDone_NoLine : PySem.W.subIn K (.ref eNothingDone) (.ref eNoLine) = some false)
    (xNothingDone_TooMuch : PySem.W.subIn K (.ref eNothingDone) (.ref eTooMuch) = some false)
    (gaNothingDone : PySem.W.findIn K (.ref eNothingDone) "__getattribute__" = some (some (.builtin "BaseException.__getattribute__")))
    (ggNothingDone : PySem.W.findIn K (.ref eNothingDone) "__getattr__" = some none)
    (hdNothingDone : PySem.W.hasDictIn K eNothingDone = true)
    (caNothingDone : PySem.W.findIn K (.ref eNothingDone) "__class__" = some (some (.builtin "object.__class__")))
    (mrNothingDone : PySem.W.mroIn K eNothingDone (.type "object") = some true)
    (suNothingDone : PySem.W.subIn K (.ref eNothingDone) (.type "ValueError") = some true)
    (flNothingDone : PySem.W.subIn K (.ref eNothingDone) (.ref cF) = some true)
    (v_MOST_LINES : PySem.W.nsIn K mainGlobals "_MOST_LINES" = some (some (.int 20 t_MOST_LINES)))
    (v_MOST_LETTERS : PySem.W.nsIn K mainGlobals "_MOST_LETTERS" = some (some (.int 12 t_MOST_LETTERS)))
    (v_MOST_PIECES : PySem.W.nsIn K mainGlobals "_MOST_PIECES" = some (some (.int 1000000 t_MOST_PIECES)))
    (v_MOST_CENTS : PySem.W.nsIn K mainGlobals "_MOST_CENTS" = some (some (.int 1000000000 t_MOST_CENTS)))
    (v_MOST_PACK : PySem.W.nsIn K mainGlobals "_MOST_PACK" = some (some (.int 1000 t_MOST_PACK)))
    (v_MOST_ORDERS : PySem.W.nsIn K mainGlobals "_MOST_ORDERS" = some (some (.int 40 t_MOST_ORDERS)))
    (gDEEDS : PySem.W.nsIn K mainGlobals "DEEDS" = some (some (.ref aD)))
    (gOFL : PySem.W.nsIn K mainGlobals "_OF_A_LINE" = some (some (.ref aF)))
    (lD : K.lookup aD = some ⟨.type "tuple", odD, .seq #[.ref aD_0, .ref aD_1, .ref aD_2, .ref aD_3, .ref aD_4, .ref aD_5, .ref aD_6, .ref aD_7] nD, slD⟩)
    (lD0 : K.lookup aD_0 = some ⟨.type "tuple", od_0, .seq #[.str "order" u0, .int 2 v0] nd_0, sd_0⟩)
    (lD1 : K.lookup aD_1 = some ⟨.type "tuple", od_1, .seq #[.str "deliver" u1, .int 4 v1] nd_1, sd_1⟩)
    (lD2 : K.lookup aD_2 = some ⟨.type "tuple", od_2, .seq #[.str "back" u2, .int 4 v2] nd_2, sd_2⟩)
    (lD3 : K.lookup aD_3 = some ⟨.type "tuple", od_3, .seq #[.str "swap" u3, .int 4 v3] nd_3, sd_3⟩)
    (lD4 : K.lookup aD_4 = some ⟨.type "tuple", od_4, .seq #[.str "credit" u4, .int 4 v4] nd_4, sd_4⟩)
    (lD5 : K.lookup aD_5 = some ⟨.type "tuple", od_5, .seq #[.str "pay" u5, .int 3 v5] nd_5, sd_5⟩)
    (lD6 : K.lookup aD_6 = some ⟨.type "tuple", od_6, .seq #[.str "refund" u6, .int 3 v6] nd_6, sd_6⟩)
    (lD7 : K.lookup aD_7 = some ⟨.type "tuple", od_7, .seq #[.str "move" u7, .int 4 v7] nd_7, sd_7⟩)
    (lF : K.lookup aF = some ⟨.type "tuple", odF, .seq #[.str "deliver" uF1, .str "back" uF2, .str "swap" uF3, .str "credit" uF4] nF, slF⟩) :
    ∃ fd : FuncData, (∀ (s : Shared) (v : Value), BindsTo s fd ⟨[v], []⟩ [("_law_script", v)]) ∧ ∀ base : Heap, K.In base → base.Ns mainGlobals mg → FnOk l.prog w K mg base CX0 12 fa fd ["_law_script"] (sp_law K) := by
  have e := hfa.symm.trans (PySem.W.mg_of X G a36)
  cases e
  have z1 := PySem.W.mg_none_of X G z1
  have z2 := PySem.W.mg_none_of X G z2
  have z3 := PySem.W.mg_none_of X G z3
  have z4 := PySem.W.mg_none_of X G z4
  have z5 := PySem.W.mg_none_of X G z5
  have z6 := PySem.W.mg_none_of X G z6
  have z7 := PySem.W.mg_none_of X G z7
  have z8 := PySem.W.mg_none_of X G z8
  have z9 := PySem.W.mg_none_of X G z9
  have z10 := PySem.W.mg_none_of X G z10
  have z11 := PySem.W.mg_none_of X G z11
  have z12 := PySem.W.mg_none_of X G z12
  have z13 := PySem.W.mg_none_of X G z13
  have z14 := PySem.W.mg_none_of X G z14
  have z15 := PySem.W.mg_none_of X G z15
  have D_worth : DefAt K mg "worth" s_worth P_worth := defAt_mk X G a1 l1 c1 k1 fun _ _ _ _ _ _ us hl => match us, hl with | [_, _, _], _ => rfl
  have D_is_item : DefAt K mg "is_item" s_is_item P_is_item := defAt_mk X G a2 l2 c2 k2 fun _ _ _ _ _ _ us hl => match us, hl with | [_], _ => rfl
  have D_refuse_lines : DefAt K mg "refuse_lines" s_refuse_lines P_refuse_lines := defAt_mk X G a3 l3 c3 k3 fun _ _ _ _ _ _ us hl => match us, hl with | [_], _ => rfl
  have D_matched : DefAt K mg "matched" s_matched P_matched := defAt_mk X G a4 l4 c4 k4 fun _ _ _ _ _ _ us hl => match us, hl with | [_], _ => rfl
  have D_cell_at : DefAt K mg "_law_cell_at" s_cell_at P_cell_at := defAt_mk X G a5 l5 c5 k5 fun _ _ _ _ _ _ us hl => match us, hl with | [_, _], _ => rfl
  have D_whole : DefAt K mg "_law_whole" s_whole P_whole := defAt_mk X G a6 l6 c6 k6 fun _ _ _ _ _ _ us hl => match us, hl with | [_], _ => rfl
  have D_line_worth : DefAt K mg "_law_line_worth" s_line_worth P_line_worth := defAt_mk X G a7 l7 c7 k7 fun _ _ _ _ _ _ us hl => match us, hl with | [_], _ => rfl
  have D_owed_by : DefAt K mg "_law_owed_by" s_owed_by P_owed_by := defAt_mk X G a8 l8 c8 k8 fun _ _ _ _ _ _ us hl => match us, hl with | [_], _ => rfl
  have D_most : DefAt K mg "_law_most" s_most P_most := defAt_mk X G a9 l9 c9 k9 fun _ _ _ _ _ _ us hl => match us, hl with | [_, _, _, _], _ => rfl
  have D_place_by : DefAt K mg "_law_place_by" s_place_by P_place_by := defAt_mk X G a10 l10 c10 k10 fun _ _ _ _ _ _ us hl => match us, hl with | [_, _, _], _ => rfl
  have D_number_by : DefAt K mg "_law_number_by" s_number_by P_number_by := defAt_mk X G a11 l11 c11 k11 fun _ _ _ _ _ _ us hl => match us, hl with | [_, _], _ => rfl
  have D_item_by : DefAt K mg "_law_item_by" s_item_by P_item_by := defAt_mk X G a12 l12 c12 k12 fun _ _ _ _ _ _ us hl => match us, hl with | [_], _ => rfl
  have D_lines_by : DefAt K mg "_law_lines_by" s_lines_by P_lines_by := defAt_mk X G a13 l13 c13 k13 fun _ _ _ _ _ _ us hl => match us, hl with | [_], _ => rfl
  have D_deed_by : DefAt K mg "_law_deed_by" s_deed_by P_deed_by := defAt_mk X G a14 l14 c14 k14 fun _ _ _ _ _ _ us hl => match us, hl with | [_, _, _], _ => rfl
  have D_refusal : DefAt K mg "_law_refusal" s_refusal P_refusal := defAt_mk X G a15 l15 c15 k15 fun _ _ _ _ _ _ us hl => match us, hl with | [_, _], _ => rfl
  have D_turned : DefAt K mg "_law_turned" s_turned P_turned := defAt_mk X G a16 l16 c16 k16 fun _ _ _ _ _ _ us hl => match us, hl with | [_, _], _ => rfl
  have D_step : DefAt K mg "_law_step" s_step P_step := defAt_mk X G a17 l17 c17 k17 fun _ _ _ _ _ _ us hl => match us, hl with | [_, _], _ => rfl
  have D_handed : DefAt K mg "_law_handed" s_handed P_handed := defAt_mk X G a18 l18 c18 k18 fun _ _ _ _ _ _ us hl => match us, hl with | [_], _ => rfl
  have D_tried : DefAt K mg "_law_tried" s_tried P_tried := defAt_mk X G a19 l19 c19 k19 fun _ _ _ _ _ _ us hl => match us, hl with | [_, _], _ => rfl
  have D_pairs_alike : DefAt K mg "_law_pairs_alike" s_pairs_alike P_pairs_alike := defAt_mk X G a20 l20 c20 k20 fun _ _ _ _ _ _ us hl => match us, hl with | [_, _], _ => rfl
  have D_parts_alike : DefAt K mg "_law_parts_alike" s_parts_alike P_parts_alike := defAt_mk X G a21 l21 c21 k21 fun _ _ _ _ _ _ us hl => match us, hl with | [_, _], _ => rfl
  have D_deed_alike : DefAt K mg "_law_deed_alike" s_deed_alike P_deed_alike := defAt_mk X G a22 l22 c22 k22 fun _ _ _ _ _ _ us hl => match us, hl with | [_, _], _ => rfl
  have D_ahead_whole : DefAt K mg "_law_ahead_whole" s_ahead_whole P_ahead_whole := defAt_mk X G a23 l23 c23 k23 fun _ _ _ _ _ _ us hl => match us, hl with | [_, _, _, _], _ => rfl
  have D_is_triple : DefAt K mg "_law_is_triple" s_is_triple P_is_triple := defAt_mk X G a24 l24 c24 k24 fun _ _ _ _ _ _ us hl => match us, hl with | [_, _], _ => rfl
  have D_matched_well : DefAt K mg "_law_matched_well" s_matched_well P_matched_well := defAt_mk X G a25 l25 c25 k25 fun _ _ _ _ _ _ us hl => match us, hl with | [_, _], _ => rfl
  have D_rows_alike : DefAt K mg "_law_rows_alike" s_rows_alike P_rows_alike := defAt_mk X G a26 l26 c26 k26 fun _ _ _ _ _ _ us hl => match us, hl with | [_, _], _ => rfl
  have D_lines_told : DefAt K mg "_law_lines_told" s_lines_told P_lines_told := defAt_mk X G a27 l27 c27 k27 fun _ _ _ _ _ _ us hl => match us, hl with | [_], _ => rfl
  have D_stands : DefAt K mg "_law_stands" s_stands P_stands := defAt_mk X G a28 l28 c28 k28 fun _ _ _ _ _ _ us hl => match us, hl with | [_, _], _ => rfl
  have D_model_of : DefAt K mg "_law_model_of" s_model_of P_model_of := defAt_mk X G a29 l29 c29 k29 fun _ _ _ _ _ _ us hl => match us, hl with | [_], _ => rfl
  have D_stands_by : DefAt K mg "_law_stands_by" s_stands_by P_stands_by := defAt_mk X G a30 l30 c30 k30 fun _ _ _ _ _ _ us hl => match us, hl with | [_, _], _ => rfl
  have D_back : DefAt K mg "_law_back" s_back P_back := defAt_mk X G a31 l31 c31 k31 fun _ _ _ _ _ _ us hl => match us, hl with | [_, _], _ => rfl
  have D_of_one_class : DefAt K mg "_law_of_one_class" s_of_one_class P_of_one_class := defAt_mk X G a32 l32 c32 k32 fun _ _ _ _ _ _ us hl => match us, hl with | [_], _ => rfl
  have D_nothing : DefAt K mg "_law_nothing" s_nothing P_nothing := defAt_mk X G a33 l33 c33 k33 fun _ _ _ _ _ _ us hl => match us, hl with | [_], _ => rfl
  have D_done : DefAt K mg "_law_done" s_done P_done := defAt_mk X G a34 l34 c34 k34 fun _ _ _ _ _ _ us hl => match us, hl with | [_, _], _ => rfl
  have D_paid_first : DefAt K mg "_law_paid_first" s_paid_first P_paid_first := defAt_mk X G a35 l35 c35 k35 fun _ _ _ _ _ _ us hl => match us, hl with | [_, _], _ => rfl
  have F_law := fun_mk (st := s_law) l36 c36 k36
  refine ⟨PySem.W.fnOf "law" "law" (defArgs s_law) (defBody s_law) (defScope s_law) .none kV36 dc36 pm36 an36 cd36 ct36, fun s v => .of_eq rfl, fun base Xb Gb => ?_⟩
  have Z : PF K CL CO CB := ⟨⟨pgLine, hdLine, poLine, saLine⟩, ⟨pgOrder, hdOrder, poOrder, saOrder⟩, ⟨pgBook, hdBook, poBook, saBook⟩, by intro f hf; simp only [lineNames, List.mem_cons, List.not_mem_nil, or_false] at hf; rcases hf with rfl | rfl | rfl | rfl | rfl | rfl | rfl | rfl; exact nLine_item; exact nLine_ordered; exact nLine_cents; exact nLine_pack; exact nLine_sent; exact nLine_home; exact nLine_again; exact nLine_credited, by intro f hf; simp only [orderNames, List.mem_cons, List.not_mem_nil, or_false] at hf; rcases hf with rfl | rfl | rfl | rfl; exact nOrder_lines; exact nOrder_received; exact nOrder_changed; exact nOrder__ahead, by intro f hf; simp only [bookNames, List.mem_cons, List.not_mem_nil, or_false] at hf; rcases hf with rfl | rfl; exact nBook__orders; exact nBook__deeds⟩
  have DI_Line : IAt K CL "Line.__init__" s_Line___init__ P_Line___init__ := iAt_mk aLine___init__ iLine___init__ lLine___init__ cLine___init__ kLine___init__ mkLine kcLine fun _ _ _ _ _ _ us hl => match us, hl with | [_, _, _, _, _], _ => rfl
  have DM_Line_kept : MAt K CL "kept" "Line.kept" s_Line_kept P_Line_kept := mAt_mk aLine_kept iLine_kept lLine_kept cLine_kept kLine_kept fun _ _ _ _ _ _ us hl => match us, hl with | [_], _ => rfl
  have DM_Line_worth_kept : MAt K CL "worth_kept" "Line.worth_kept" s_Line_worth_kept P_Line_worth_kept := mAt_mk aLine_worth_kept iLine_worth_kept lLine_worth_kept cLine_worth_kept kLine_worth_kept fun _ _ _ _ _ _ us hl => match us, hl with | [_], _ => rfl
  have DM_Line_charge : MAt K CL "charge" "Line.charge" s_Line_charge P_Line_charge := mAt_mk aLine_charge iLine_charge lLine_charge cLine_charge kLine_charge fun _ _ _ _ _ _ us hl => match us, hl with | [_], _ => rfl
  have DM_Line_most : MAt K CL "most" "Line.most" s_Line_most P_Line_most := mAt_mk aLine_most iLine_most lLine_most cLine_most kLine_most fun _ _ _ _ _ _ us hl => match us, hl with | [_, _], _ => rfl
  have DM_Line_change : MAt K CL "change" "Line.change" s_Line_change P_Line_change := mAt_mk aLine_change iLine_change lLine_change cLine_change kLine_change fun _ _ _ _ _ _ us hl => match us, hl with | [_, _, _], _ => rfl
  have DM_Line_take_home : MAt K CL "take_home" "Line.take_home" s_Line_take_home P_Line_take_home := mAt_mk aLine_take_home iLine_take_home lLine_take_home cLine_take_home kLine_take_home fun _ _ _ _ _ _ us hl => match us, hl with | [_, _], _ => rfl
  have DM_Line_numbers : MAt K CL "numbers" "Line.numbers" s_Line_numbers P_Line_numbers := mAt_mk aLine_numbers iLine_numbers lLine_numbers cLine_numbers kLine_numbers fun _ _ _ _ _ _ us hl => match us, hl with | [_], _ => rfl
  have DI_Order : IAt K CO "Order.__init__" s_Order___init__ P_Order___init__ := iAt_mk aOrder___init__ iOrder___init__ lOrder___init__ cOrder___init__ kOrder___init__ mkOrder kcOrder fun _ _ _ _ _ _ us hl => match us, hl with | [_, _], _ => rfl
  have DM_Order_owed : MAt K CO "owed" "Order.owed" s_Order_owed P_Order_owed := mAt_mk aOrder_owed iOrder_owed lOrder_owed cOrder_owed kOrder_owed fun _ _ _ _ _ _ us hl => match us, hl with | [_], _ => rfl
  have DM_Order_overpaid : MAt K CO "overpaid" "Order.overpaid" s_Order_overpaid P_Order_overpaid := mAt_mk aOrder_overpaid iOrder_overpaid lOrder_overpaid cOrder_overpaid kOrder_overpaid fun _ _ _ _ _ _ us hl => match us, hl with | [_], _ => rfl
  have DM_Order_change_line : MAt K CO "change_line" "Order.change_line" s_Order_change_line P_Order_change_line := mAt_mk aOrder_change_line iOrder_change_line lOrder_change_line cOrder_change_line kOrder_change_line fun _ _ _ _ _ _ us hl => match us, hl with | [_, _, _, _], _ => rfl
  have DM_Order_receive : MAt K CO "receive" "Order.receive" s_Order_receive P_Order_receive := mAt_mk aOrder_receive iOrder_receive lOrder_receive cOrder_receive kOrder_receive fun _ _ _ _ _ _ us hl => match us, hl with | [_, _, _], _ => rfl
  have DI_Book : IAt K CB "Book.__init__" s_Book___init__ P_Book___init__ := iAt_mk aBook___init__ iBook___init__ lBook___init__ cBook___init__ kBook___init__ mkBook kcBook fun _ _ _ _ _ _ us hl => match us, hl with | [_], _ => rfl
  have DM_Book_do : MAt K CB "do" "Book.do" s_Book_do P_Book_do := mAt_mk aBook_do iBook_do lBook_do cBook_do kBook_do fun _ _ _ _ _ _ us hl => match us, hl with | [_, _], _ => rfl
  have DM_Book__begin : MAt K CB "_begin" "Book._begin" s_Book__begin P_Book__begin := mAt_mk aBook__begin iBook__begin lBook__begin cBook__begin kBook__begin fun _ _ _ _ _ _ us hl => match us, hl with | [_, _], _ => rfl
  have DM_Book__found : MAt K CB "_found" "Book._found" s_Book__found P_Book__found := mAt_mk aBook__found iBook__found lBook__found cBook__found kBook__found fun _ _ _ _ _ _ us hl => match us, hl with | [_, _], _ => rfl
  have DM_Book__refuse : MAt K CB "_refuse" "Book._refuse" s_Book__refuse P_Book__refuse := mAt_mk aBook__refuse iBook__refuse lBook__refuse cBook__refuse kBook__refuse fun _ _ _ _ _ _ us hl => match us, hl with | [_, _], _ => rfl
  have DM_Book__carry_out : MAt K CB "_carry_out" "Book._carry_out" s_Book__carry_out P_Book__carry_out := mAt_mk aBook__carry_out iBook__carry_out lBook__carry_out cBook__carry_out kBook__carry_out fun _ _ _ _ _ _ us hl => match us, hl with | [_, _], _ => rfl
  have DM_Line_put_back : MAt K CL "put_back" "Line.put_back" s_Line_put_back P_Line_put_back := mAt_mk aLine_put_back iLine_put_back lLine_put_back cLine_put_back kLine_put_back fun _ _ _ _ _ _ us hl => match us, hl with | [_, _], _ => rfl
  have DM_Line_told : MAt K CL "told" "Line.told" s_Line_told P_Line_told := mAt_mk aLine_told iLine_told lLine_told cLine_told kLine_told fun _ _ _ _ _ _ us hl => match us, hl with | [_], _ => rfl
  have DM_Order_take_back : MAt K CO "take_back" "Order.take_back" s_Order_take_back P_Order_take_back := mAt_mk aOrder_take_back iOrder_take_back lOrder_take_back cOrder_take_back kOrder_take_back fun _ _ _ _ _ _ us hl => match us, hl with | [_], _ => rfl
  have DM_Book_undo : MAt K CB "undo" "Book.undo" s_Book_undo P_Book_undo := mAt_mk aBook_undo iBook_undo lBook_undo cBook_undo kBook_undo fun _ _ _ _ _ _ us hl => match us, hl with | [_], _ => rfl
  have DM_Book_orders : MAt K CB "orders" "Book.orders" s_Book_orders P_Book_orders := mAt_mk aBook_orders iBook_orders lBook_orders cBook_orders kBook_orders fun _ _ _ _ _ _ us hl => match us, hl with | [_], _ => rfl
  have DM_Book_told : MAt K CB "told" "Book.told" s_Book_told P_Book_told := mAt_mk aBook_told iBook_told lBook_told cBook_told kBook_told fun _ _ _ _ _ _ us hl => match us, hl with | [_, _], _ => rfl
  have DM_Book_paid : MAt K CB "paid" "Book.paid" s_Book_paid P_Book_paid := mAt_mk aBook_paid iBook_paid lBook_paid cBook_paid kBook_paid fun _ _ _ _ _ _ us hl => match us, hl with | [_, _], _ => rfl
  have DM_Book_owed : MAt K CB "owed" "Book.owed" s_Book_owed P_Book_owed := mAt_mk aBook_owed iBook_owed lBook_owed cBook_owed kBook_owed fun _ _ _ _ _ _ us hl => match us, hl with | [_, _], _ => rfl
  have DM_Book_rows : MAt K CB "rows" "Book.rows" s_Book_rows P_Book_rows := mAt_mk aBook_rows iBook_rows lBook_rows cBook_rows kBook_rows fun _ _ _ _ _ _ us hl => match us, hl with | [_, _], _ => rfl
  have DM_Book_settled : MAt K CB "settled" "Book.settled" s_Book_settled P_Book_settled := mAt_mk aBook_settled iBook_settled lBook_settled cBook_settled kBook_settled fun _ _ _ _ _ _ us hl => match us, hl with | [_, _], _ => rfl
  have EM : ErrMk K mg (clOf [eNoDeed, eNoLines, eNoItem, eNoNumber, eFullBook, eNoOrder, eSameOrder, eNoLine, eTooMuch]) := ⟨by intro n hn; simp only [errNames, List.mem_cons, List.not_mem_nil, or_false] at hn; rcases hn with rfl | rfl | rfl | rfl | rfl | rfl | rfl | rfl | rfl; exact PySem.W.mg_of X G gNoDeed; exact PySem.W.mg_of X G gNoLines; exact PySem.W.mg_of X G gNoItem; exact PySem.W.mg_of X G gNoNumber; exact PySem.W.mg_of X G gFullBook; exact PySem.W.mg_of X G gNoOrder; exact PySem.W.mg_of X G gSameOrder; exact PySem.W.mg_of X G gNoLine; exact PySem.W.mg_of X G gTooMuch, by intro n hn; simp only [errNames, List.mem_cons, List.not_mem_nil, or_false] at hn; rcases hn with rfl | rfl | rfl | rfl | rfl | rfl | rfl | rfl | rfl; exact qNoDeed; exact qNoLines; exact qNoItem; exact qNoNumber; exact qFullBook; exact qNoOrder; exact qSameOrder; exact qNoLine; exact qTooMuch, by intro n hn; simp only [errNames, List.mem_cons, List.not_mem_nil, or_false] at hn; rcases hn with rfl | rfl | rfl | rfl | rfl | rfl | rfl | rfl | rfl; exact kpNoDeed; exact kpNoLines; exact kpNoItem; exact kpNoNumber; exact kpFullBook; exact kpNoOrder; exact kpSameOrder; exact kpNoLine; exact kpTooMuch, by intro n hn; simp only [errNames, List.mem_cons, List.not_mem_nil, or_false] at hn; rcases hn with rfl | rfl | rfl | rfl | rfl | rfl | rfl | rfl | rfl; exact sbNoDeed; exact sbNoLines; exact sbNoItem; exact sbNoNumber; exact sbFullBook; exact sbNoOrder; exact sbSameOrder; exact sbNoLine; exact sbTooMuch, by intro n hn; simp only [errNames, List.mem_cons, List.not_mem_nil, or_false] at hn; rcases hn with rfl | rfl | rfl | rfl | rfl | rfl | rfl | rfl | rfl; exact tyNoDeed; exact tyNoLines; exact tyNoItem; exact tyNoNumber; exact tyFullBook; exact tyNoOrder; exact tySameOrder; exact tyNoLine; exact tyTooMuch⟩
  have ER : Errs K mg (clOf [eNoDeed, eNoLines, eNoItem, eNoNumber, eFullBook, eNoOrder, eSameOrder, eNoLine, eTooMuch]) := ⟨EM.g, by intro n hn m hm; simp only [errNames, List.mem_cons, List.not_mem_nil, or_false] at hn hm; rcases hn with rfl | rfl | rfl | rfl | rfl | rfl | rfl | rfl | rfl <;> rcases hm with rfl | rfl | rfl | rfl | rfl | rfl | rfl | rfl | rfl; exact exm_mk sbNoDeed icNoDeed tyNoDeed xNoDeed_NoDeed; exact exm_mk sbNoLines icNoLines tyNoLines xNoDeed_NoLines; exact exm_mk sbNoItem icNoItem tyNoItem xNoDeed_NoItem; exact exm_mk sbNoNumber icNoNumber tyNoNumber xNoDeed_NoNumber; exact exm_mk sbFullBook icFullBook tyFullBook xNoDeed_FullBook; exact exm_mk sbNoOrder icNoOrder tyNoOrder xNoDeed_NoOrder; exact exm_mk sbSameOrder icSameOrder tySameOrder xNoDeed_SameOrder; exact exm_mk sbNoLine icNoLine tyNoLine xNoDeed_NoLine; exact exm_mk sbTooMuch icTooMuch tyTooMuch xNoDeed_TooMuch; exact exm_mk sbNoDeed icNoDeed tyNoDeed xNoLines_NoDeed; exact exm_mk sbNoLines icNoLines tyNoLines xNoLines_NoLines; exact exm_mk sbNoItem icNoItem tyNoItem xNoLines_NoItem; exact exm_mk sbNoNumber icNoNumber tyNoNumber xNoLines_NoNumber; exact exm_mk sbFullBook icFullBook tyFullBook xNoLines_FullBook; exact exm_mk sbNoOrder icNoOrder tyNoOrder xNoLines_NoOrder; exact exm_mk sbSameOrder icSameOrder tySameOrder xNoLines_SameOrder; exact exm_mk sbNoLine icNoLine tyNoLine xNoLines_NoLine; exact exm_mk sbTooMuch icTooMuch tyTooMuch xNoLines_TooMuch; exact exm_mk sbNoDeed icNoDeed tyNoDeed xNoItem_NoDeed; exact exm_mk sbNoLines icNoLines tyNoLines xNoItem_NoLines; exact exm_mk sbNoItem icNoItem tyNoItem xNoItem_NoItem; exact exm_mk sbNoNumber icNoNumber tyNoNumber xNoItem_NoNumber; exact exm_mk sbFullBook icFullBook tyFullBook xNoItem_FullBook; exact exm_mk sbNoOrder icNoOrder tyNoOrder xNoItem_NoOrder; exact exm_mk sbSameOrder icSameOrder tySameOrder xNoItem_SameOrder; exact exm_mk sbNoLine icNoLine tyNoLine xNoItem_NoLine; exact exm_mk sbTooMuch icTooMuch tyTooMuch xNoItem_TooMuch; exact exm_mk sbNoDeed icNoDeed tyNoDeed xNoNumber_NoDeed; exact exm_mk sbNoLines icNoLines tyNoLines xNoNumber_NoLines; exact exm_mk sbNoItem icNoItem tyNoItem xNoNumber_NoItem; exact exm_mk sbNoNumber icNoNumber tyNoNumber xNoNumber_NoNumber; exact exm_mk sbFullBook icFullBook tyFullBook xNoNumber_FullBook; exact exm_mk sbNoOrder icNoOrder tyNoOrder xNoNumber_NoOrder; exact exm_mk sbSameOrder icSameOrder tySameOrder xNoNumber_SameOrder; exact exm_mk sbNoLine icNoLine tyNoLine xNoNumber_NoLine; exact exm_mk sbTooMuch icTooMuch tyTooMuch xNoNumber_TooMuch; exact exm_mk sbNoDeed icNoDeed tyNoDeed xFullBook_NoDeed; exact exm_mk sbNoLines icNoLines tyNoLines xFullBook_NoLines; exact exm_mk sbNoItem icNoItem tyNoItem xFullBook_NoItem; exact exm_mk sbNoNumber icNoNumber tyNoNumber xFullBook_NoNumber; exact exm_mk sbFullBook icFullBook tyFullBook xFullBook_FullBook; exact exm_mk sbNoOrder icNoOrder tyNoOrder xFullBook_NoOrder; exact exm_mk sbSameOrder icSameOrder tySameOrder xFullBook_SameOrder; exact exm_mk sbNoLine icNoLine tyNoLine xFullBook_NoLine; exact exm_mk sbTooMuch icTooMuch tyTooMuch xFullBook_TooMuch; exact exm_mk sbNoDeed icNoDeed tyNoDeed xNoOrder_NoDeed; exact exm_mk sbNoLines icNoLines tyNoLines xNoOrder_NoLines; exact exm_mk sbNoItem icNoItem tyNoItem xNoOrder_NoItem; exact exm_mk sbNoNumber icNoNumber tyNoNumber xNoOrder_NoNumber; exact exm_mk sbFullBook icFullBook tyFullBook xNoOrder_FullBook; exact exm_mk sbNoOrder icNoOrder tyNoOrder xNoOrder_NoOrder; exact exm_mk sbSameOrder icSameOrder tySameOrder xNoOrder_SameOrder; exact exm_mk sbNoLine icNoLine tyNoLine xNoOrder_NoLine; exact exm_mk sbTooMuch icTooMuch tyTooMuch xNoOrder_TooMuch; exact exm_mk sbNoDeed icNoDeed tyNoDeed xSameOrder_NoDeed; exact exm_mk sbNoLines icNoLines tyNoLines xSameOrder_NoLines; exact exm_mk sbNoItem icNoItem tyNoItem xSameOrder_NoItem; exact exm_mk sbNoNumber icNoNumber tyNoNumber xSameOrder_NoNumber; exact exm_mk sbFullBook icFullBook tyFullBook xSameOrder_FullBook; exact exm_mk sbNoOrder icNoOrder tyNoOrder xSameOrder_NoOrder; exact exm_mk sbSameOrder icSameOrder tySameOrder xSameOrder_SameOrder; exact exm_mk sbNoLine icNoLine tyNoLine xSameOrder_NoLine; exact exm_mk sbTooMuch icTooMuch tyTooMuch xSameOrder_TooMuch; exact exm_mk sbNoDeed icNoDeed tyNoDeed xNoLine_NoDeed; exact exm_mk sbNoLines icNoLines tyNoLines xNoLine_NoLines; exact exm_mk sbNoItem icNoItem tyNoItem xNoLine_NoItem; exact exm_mk sbNoNumber icNoNumber tyNoNumber xNoLine_NoNumber; exact exm_mk sbFullBook icFullBook tyFullBook xNoLine_FullBook; exact exm_mk sbNoOrder icNoOrder tyNoOrder xNoLine_NoOrder; exact exm_mk sbSameOrder icSameOrder tySameOrder xNoLine_SameOrder; exact exm_mk sbNoLine icNoLine tyNoLine xNoLine_NoLine; exact exm_mk sbTooMuch icTooMuch tyTooMuch xNoLine_TooMuch; exact exm_mk sbNoDeed icNoDeed tyNoDeed xTooMuch_NoDeed; exact exm_mk sbNoLines icNoLines tyNoLines xTooMuch_NoLines; exact exm_mk sbNoItem icNoItem tyNoItem xTooMuch_NoItem; exact exm_mk sbNoNumber icNoNumber tyNoNumber xTooMuch_NoNumber; exact exm_mk sbFullBook icFullBook tyFullBook xTooMuch_FullBook; exact exm_mk sbNoOrder icNoOrder tyNoOrder xTooMuch_NoOrder; exact exm_mk sbSameOrder icSameOrder tySameOrder xTooMuch_SameOrder; exact exm_mk sbNoLine icNoLine tyNoLine xTooMuch_NoLine; exact exm_mk sbTooMuch icTooMuch tyTooMuch xTooMuch_TooMuch⟩
  have hc : ∀ n ∈ errNames, clOf [eNoDeed, eNoLines, eNoItem, eNoNumber, eFullBook, eNoOrder, eSameOrder, eNoLine, eTooMuch] n = clOf10 [eNoDeed, eNoLines, eNoItem, eNoNumber, eFullBook, eNoOrder, eSameOrder, eNoLine, eTooMuch, eNothingDone] n := by intro n hn; simp only [errNames, List.mem_cons, List.not_mem_nil, or_false] at hn; rcases hn with rfl | rfl | rfl | rfl | rfl | rfl | rfl | rfl | rfl <;> rfl
  have EM : ErrMk K mg (clOf10 [eNoDeed, eNoLines, eNoItem, eNoNumber, eFullBook, eNoOrder, eSameOrder, eNoLine, eTooMuch, eNothingDone]) := ⟨fun n hn => by rw [← hc n hn]; exact EM.g n hn, fun n hn => by rw [← hc n hn]; exact EM.q n hn, fun n hn => by rw [← hc n hn]; exact EM.kp n hn, fun n hn => by rw [← hc n hn]; exact EM.sb n hn, fun n hn => by rw [← hc n hn]; exact EM.ty n hn⟩
  have ER : Errs K mg (clOf10 [eNoDeed, eNoLines, eNoItem, eNoNumber, eFullBook, eNoOrder, eSameOrder, eNoLine, eTooMuch, eNothingDone]) := ⟨EM.g, fun n hn m hm => by rw [← hc n hn, ← hc m hm]; exact ER.x n hn m hm⟩
  have ND : NDm K mg (clOf10 [eNoDeed, eNoLines, eNoItem, eNoNumber, eFullBook, eNoOrder, eSameOrder, eNoLine, eTooMuch, eNothingDone]) := ⟨PySem.W.mg_of X G gNothingDone, qNothingDone, kpNothingDone, sbNothingDone, tyNothingDone⟩
  have E10 : OneE K mg (clOf10 [eNoDeed, eNoLines, eNoItem, eNoNumber, eFullBook, eNoOrder, eSameOrder, eNoLine, eTooMuch, eNothingDone]) ["NothingDone"] := by
    refine ⟨fun n hn => ?_, fun n hn => ?_, fun n hn => ?_, fun n hn m hm => ?_, fun n hn => ?_⟩
    · simp only [ten, List.mem_cons, List.not_mem_nil, or_false] at hn
      rcases hn with rfl | rfl | rfl | rfl | rfl | rfl | rfl | rfl | rfl | rfl
      · exact PySem.W.mg_of X G gNoDeed
      · exact PySem.W.mg_of X G gNoLines
      · exact PySem.W.mg_of X G gNoItem
      · exact PySem.W.mg_of X G gNoNumber
      · exact PySem.W.mg_of X G gFullBook
      · exact PySem.W.mg_of X G gNoOrder
      · exact PySem.W.mg_of X G gSameOrder
      · exact PySem.W.mg_of X G gNoLine
      · exact PySem.W.mg_of X G gTooMuch
      · exact PySem.W.mg_of X G gNothingDone
    · simp only [List.mem_cons, List.not_mem_nil, or_false] at hn
      rcases hn with rfl <;> decide
    · simp only [List.mem_cons, List.not_mem_nil, or_false] at hn
      rcases hn with rfl
      · exact ⟨gaNothingDone, ggNothingDone, sbNothingDone, hdNothingDone, caNothingDone, spC, tkC, mrNothingDone⟩
    · simp only [ten, List.mem_cons, List.not_mem_nil, or_false] at hn hm
      rcases hn with rfl
      · rcases hm with rfl | rfl | rfl | rfl | rfl | rfl | rfl | rfl | rfl | rfl
        · exact kit_ref xNothingDone_NoDeed xNothingDone_NothingDone icNoDeed tyNoDeed
        · exact kit_ref xNothingDone_NoLines xNothingDone_NothingDone icNoLines tyNoLines
        · exact kit_ref xNothingDone_NoItem xNothingDone_NothingDone icNoItem tyNoItem
        · exact kit_ref xNothingDone_NoNumber xNothingDone_NothingDone icNoNumber tyNoNumber
        · exact kit_ref xNothingDone_FullBook xNothingDone_NothingDone icFullBook tyFullBook
        · exact kit_ref xNothingDone_NoOrder xNothingDone_NothingDone icNoOrder tyNoOrder
        · exact kit_ref xNothingDone_SameOrder xNothingDone_NothingDone icSameOrder tySameOrder
        · exact kit_ref xNothingDone_NoLine xNothingDone_NothingDone icNoLine tyNoLine
        · exact kit_ref xNothingDone_TooMuch xNothingDone_NothingDone icTooMuch tyTooMuch
        · exact kit_ref xNothingDone_NothingDone xNothingDone_NothingDone icNothingDone tyNothingDone
    · simp only [List.mem_cons, List.not_mem_nil, or_false] at hn
      rcases hn with rfl
      · exact kit_val suNothingDone
  have EF : FlowE K mg (clOf10 [eNoDeed, eNoLines, eNoItem, eNoNumber, eFullBook, eNoOrder, eSameOrder, eNoLine, eTooMuch, eNothingDone]) cF ["NothingDone"] := by
    refine ⟨fun n hn => by rw [List.mem_singleton.mp hn]; exact PySem.W.mg_of X G gFlowError, fun n hn => ?_⟩
    simp only [List.mem_cons, List.not_mem_nil, or_false] at hn
    rcases hn with rfl
    · exact exm_mk sbFlow icFlow tyFlow flNothingDone
  have CS : Consts mg := ⟨⟨_, PySem.W.mg_of X G v_MOST_LINES⟩, ⟨_, PySem.W.mg_of X G v_MOST_LETTERS⟩, ⟨_, PySem.W.mg_of X G v_MOST_PIECES⟩, ⟨_, PySem.W.mg_of X G v_MOST_CENTS⟩, ⟨_, PySem.W.mg_of X G v_MOST_PACK⟩, ⟨_, PySem.W.mg_of X G v_MOST_ORDERS⟩⟩
  have TP : Tups K mg aD aF := ⟨PySem.W.mg_of X G gDEEDS, PySem.W.mg_of X G gOFL, fun H => deeds_dp lD lD0 lD1 lD2 lD3 lD4 lD5 lD6 lD7, fun H => .inr ⟨_, _, _, lF, rfl, rfl, sz8, .cons ⟨_, rfl⟩ (.cons ⟨_, rfl⟩ (.cons ⟨_, rfl⟩ (.cons ⟨_, rfl⟩ .nil)))⟩⟩
  have T : Blt mg := ⟨z1, z2, z3, z4, z5, z6, z7, z8, z9, z10, z11, z12, z13⟩
  have T2 : Bl2 mg := ⟨z14, z15⟩
  have c_worth := c_worth (P := l.prog) (w := w) (base := base) D_worth
  have mk_Line := mk_Line (P := l.prog) (w := w) (base := base) Z (PySem.W.mg_of X G gLine) DI_Line
  have m_Line_kept := m_Line_kept (P := l.prog) (w := w) (mg := mg) (base := base) Z DM_Line_kept
  have m_Line_worth_kept := m_Line_worth_kept Z c_worth m_Line_kept DM_Line_worth_kept
  have m_Line_charge := m_Line_charge Z m_Line_worth_kept DM_Line_charge
  have m_Line_most := m_Line_most Z m_Line_kept m_Line_charge DM_Line_most
  have m_Line_take_home := m_Line_take_home Z T m_Line_worth_kept DM_Line_take_home
  have m_Line_change := m_Line_change Z m_Line_take_home DM_Line_change
  have m_Line_numbers := m_Line_numbers (P := l.prog) (w := w) (mg := mg) (base := base) Z DM_Line_numbers
  have c_is_item := c_is_item (P := l.prog) (w := w) (base := base) T T2 CS D_is_item
  have c_refuse_lines := c_refuse_lines T CS EM c_is_item D_refuse_lines
  have mk_Order := mk_Order Z (PySem.W.mg_of X G gOrder) mk_Line DI_Order
  have m_Order_owed := m_Order_owed Z T m_Line_charge DM_Order_owed
  have m_Order_overpaid := m_Order_overpaid Z T m_Order_owed DM_Order_overpaid
  have m_Order_change_line := m_Order_change_line Z T m_Line_charge m_Line_numbers m_Line_change DM_Order_change_line
  have m_Order_receive := m_Order_receive (P := l.prog) (w := w) (mg := mg) (base := base) Z T DM_Order_receive
  have m_Book__found := m_Book__found (P := l.prog) (w := w) (mg := mg) (base := base) Z T EM DM_Book__found
  have m_Book__begin := m_Book__begin Z T CS EM c_refuse_lines mk_Order DM_Book__begin
  have m_Book__refuse := m_Book__refuse Z T TP EM m_Book__found m_Line_most m_Order_overpaid DM_Book__refuse
  have m_Book__carry_out := m_Book__carry_out Z T TP m_Order_change_line m_Order_receive DM_Book__carry_out
  have B_do := ((m_Book_do Z T TP EM m_Book__begin m_Book__refuse m_Book__carry_out DM_Book_do).mono (show 7 ≤ 8 by decide)).bcal (by decide)
  have M_Book := (mk_Book (P := l.prog) (w := w) (mg := mg) (base := base) Z (PySem.W.mg_of X G gBook) DI_Book).mono (show 1 ≤ 8 by decide)
  have B_orders := (B_orders (P := l.prog) (w := w) (mg := mg) (base := base) Z T DM_Book_orders).mono (show 1 ≤ 8 by decide)
  have B_owed := (B_owed Z T m_Book__found m_Order_owed DM_Book_owed).mono (show 5 ≤ 8 by decide)
  have B_paid := (B_paid Z T m_Book__found DM_Book_paid).mono (show 2 ≤ 8 by decide)
  have m_Line_told := m_Line_told (P := l.prog) (w := w) (mg := mg) (base := base) Z DM_Line_told
  have B_told := (B_told Z T m_Book__found m_Line_told DM_Book_told).mono (show 2 ≤ 8 by decide)
  have B_rows := (B_rows Z T m_Book__found DM_Book_rows).mono (show 2 ≤ 8 by decide)
  have m_Line_put_back := m_Line_put_back (P := l.prog) (w := w) (mg := mg) (base := base) Z DM_Line_put_back
  have m_Order_take_back := m_Order_take_back Z T m_Line_put_back DM_Order_take_back
  have B_undo := (B_undo Z T ND m_Order_take_back DM_Book_undo).mono (show 3 ≤ 8 by decide)
  have MN_undo := (MN_undo Z T ND m_Order_take_back DM_Book_undo).mono (show 3 ≤ 8 by decide)
  have c_matched := c_matched (P := l.prog) (w := w) (base := base) T T2 D_matched
  have B_settled := (B_settled Z T m_Book__found c_matched DM_Book_settled).mono (show 6 ≤ 8 by decide)
  have h_Line := h_Line (P := l.prog) (w := w) (base := base) Z (PySem.W.mg_of X G gLine) DI_Line
  have h_is_item := h_is_item (P := l.prog) (w := w) (base := base) T T2 CS D_is_item
  have h_Order := h_Order Z (PySem.W.mg_of X G gOrder) h_Line DI_Order
  have h_refuse_lines := h_refuse_lines (cl := clOf []) T CS h_is_item D_refuse_lines
  have h_Book__begin := h_Book__begin Z T CS h_refuse_lines h_Order DM_Book__begin
  have h_Book_do := (h_Book_do Z T TP h_Book__begin DM_Book_do).mono (show 7 ≤ 8 by decide)
  have h_Book_undo := (h_Book_undo (P := l.prog) (w := w) (mg := mg) (base := base) Z T DM_Book_undo).mono (show 3 ≤ 8 by decide)
  have h_Book_orders := (h_Book_orders (P := l.prog) (w := w) (mg := mg) (base := base) Z T DM_Book_orders).mono (show 1 ≤ 8 by decide)
  have c_cell_at := c_cell_at (P := l.prog) (w := w) (base := base) T D_cell_at
  have c_whole := c_whole (P := l.prog) (w := w) (base := base) T D_whole
  have c_line_worth := c_line_worth (P := l.prog) (w := w) (base := base) D_line_worth
  have c_owed_by := c_owed_by T c_line_worth D_owed_by
  have c_place_by := c_place_by (P := l.prog) (w := w) (base := base) T D_place_by
  have c_number_by := c_number_by (P := l.prog) (w := w) (base := base) T D_number_by
  have c_item_by := c_item_by (P := l.prog) (w := w) (base := base) T D_item_by
  have c_lines_by := c_lines_by T c_item_by D_lines_by
  have c_most := c_most T c_line_worth c_owed_by D_most
  have c_deed_by := c_deed_by T c_lines_by c_place_by c_number_by c_most D_deed_by
  have c_refusal := c_refusal T c_most D_refusal
  have c_turned := c_turned T c_line_worth D_turned
  have c_step := c_step T c_owed_by c_turned D_step
  have c_handed := c_handed (P := l.prog) (w := w) (base := base) T D_handed
  have c_ahead_whole := c_ahead_whole (P := l.prog) (w := w) (base := base) T D_ahead_whole
  have c_is_triple := c_is_triple T c_whole D_is_triple
  have c_matched_well := c_matched_well T c_is_triple c_ahead_whole D_matched_well
  have c_pairs_alike := c_pairs_alike T c_whole D_pairs_alike
  have c_parts_alike := c_parts_alike T c_whole D_parts_alike
  have c_deed_alike := c_deed_alike T c_parts_alike D_deed_alike
  have c_rows_alike := c_rows_alike T c_whole D_rows_alike
  have c_lines_told := c_lines_told (P := l.prog) (w := w) (base := base) T D_lines_told
  have c_tried := c_tried (R := theR K CL CO CB) ER B_do D_tried
  have c_model_of := c_model_of T c_step D_model_of
  have c_stands := c_stands (R := theR K CL CO CB) T c_whole c_pairs_alike c_lines_told c_owed_by B_orders B_told B_paid B_owed D_stands
  have c_stands_by := c_stands_by (R := theR K CL CO CB) T c_model_of c_stands c_rows_alike c_matched_well B_rows B_settled D_stands_by
  have c_back := c_back (R := theR K CL CO CB) T B_undo c_deed_alike c_stands_by D_back
  have c_of_one_class := c_of_one_class (P := l.prog) (w := w) (base := base) T E10 D_of_one_class
  have c_nothing := c_nothing T (PySem.W.mg_of X G gNothingDone) (exm_mk sbNothingDone icNothingDone tyNothingDone xNothingDone_NothingDone) EF B_undo MN_undo h_Book_do h_Book_undo h_Book_orders c_of_one_class D_nothing
  have c_done := c_done (R := theR K CL CO CB) T c_handed c_tried D_done
  have c_paid_first := c_paid_first (R := theR K CL CO CB) T c_handed B_do D_paid_first
  exact ok_law T M_Book c_cell_at c_paid_first c_model_of c_deed_by c_back c_done c_refusal c_stands_by c_nothing F_law
theorem walk {l : PySem.W.OpenLaw} {q : Program} {loose : List Str} {XP : (Str → Option Value) → Heap → Prop} {YP : World → Heap → Prop} {d : DefRec} {K : Params → PySem.W.Frag} (hn : l.most = some 63) (hdf : d.params.defaults = [])
    (hY : ∀ (w : World) (h : Heap), YP w h → (K w.params).In h)
    (F : ∀ (w : World) (mg : Str → Option Value) (fa : Addr) (h : Heap), (K w.params).In h → h.Ns mainGlobals mg → mg d.name = some (.ref fa) →
      ∃ fd : FuncData, (∀ (s : Shared) (u : Value), BindsTo s fd ⟨[u], []⟩ [("_law_script", u)]) ∧ ∀ base : Heap, (K w.params).In base → base.Ns mainGlobals mg → FnOk l.prog w (K w.params) mg base CX0 12 fa fd ["_law_script"] (sp_law (K w.params))) :
    PySem.W.WalkO q loose XP YP l.row.toRowW d [] (fun f vs => PySem.call f vs) :=
  L2.walk_of (n := 63) (k := 12) (x := "_law_script") (CX := fun _ => CX0) (sp := fun w => sp_law (K w.params)) hn (by decide) hdf ⟨rfl, by decide, by decide⟩ hY F (fun _ _ a ns hl _ hS => ⟨a, ns, rfl, hS, hl, fun _ => rfl⟩) fun _ _ _ _ _ z => z
end Of
open PySem PySem.W PyProof.Rows
set_option maxRecDepth 100000 in
set_option maxHeartbeats 0 in
theorem PySem.Challenge.cw_orderflow_k09_taken_back_holds : PySem.Challenge.rw_orderflow_k09_taken_back.Holds := by
  w_on; o_law; k_head; (case hw => w_witness2)
  k_fill
  refine Of.walk (l := PySem.Challenge.rw_orderflow_k09_taken_back) rfl rfl (fun w h Y => PySem.W.kIn_of Y) ?F
  case F =>
    intro w mg fa h KX G hmg
    refine' Of.all_mk KX G hmg ?a1 ?l1 ?c1 ?k1 ?a2 ?l2 ?c2 ?k2 ?a3 ?l3 ?c3 ?k3 ?a4 ?l4 ?c4 ?k4 ?a5 ?l5 ?c5 ?k5 ?a6 ?l6 ?c6 ?k6 ?a7 ?l7 ?c7 ?k7 ?a8 ?l8 ?c8 ?k8 ?a9 ?l9 ?c9 ?k9 ?a10 ?l10 ?c10 ?k10 ?a11 ?l11 ?c11 ?k11 ?a12 ?l12 ?c12 ?k12 ?a13 ?l13 ?c13 ?k13 ?a14 ?l14 ?c14 ?k14 ?a15 ?l15 ?c15 ?k15 ?a16 ?l16 ?c16 ?k16 ?a17 ?l17 ?c17 ?k17 ?a18 ?l18 ?c18 ?k18 ?a19 ?l19 ?c19 ?k19 ?a20 ?l20 ?c20 ?k20 ?a21 ?l21 ?c21 ?k21 ?a22 ?l22 ?c22 ?k22 ?a23 ?l23 ?c23 ?k23 ?a24 ?l24 ?c24 ?k24 ?a25 ?l25 ?c25 ?k25 ?a26 ?l26 ?c26 ?k26 ?a27 ?l27 ?c27 ?k27 ?a28 ?l28 ?c28 ?k28 ?a29 ?l29 ?c29 ?k29 ?a30 ?l30 ?c30 ?k30 ?a31 ?l31 ?c31 ?k31 ?a32 ?l32 ?c32 ?k32 ?a33 ?l33 ?c33 ?k33 ?a34 ?l34 ?c34 ?k34 ?a35 ?l35 ?c35 ?k35 ?a36 ?l36 ?c36 ?k36 ?z1 ?z2 ?z3 ?z4 ?z5 ?z6 ?z7 ?z8 ?z9 ?z10 ?z11 ?z12 ?z13 ?z14 ?z15 ?gLine ?pgLine ?hdLine ?poLine ?saLine ?mkLine ?kcLine ?nLine_item ?nLine_ordered ?nLine_cents ?nLine_pack ?nLine_sent ?nLine_home ?nLine_again ?nLine_credited ?gOrder ?pgOrder ?hdOrder ?poOrder ?saOrder ?mkOrder ?kcOrder ?nOrder_lines ?nOrder_received ?nOrder_changed ?nOrder__ahead ?gBook ?pgBook ?hdBook ?poBook ?saBook ?mkBook ?kcBook ?nBook__orders ?nBook__deeds ?aLine___init__ ?iLine___init__ ?lLine___init__ ?cLine___init__ ?kLine___init__ ?aLine_kept ?iLine_kept ?lLine_kept ?cLine_kept ?kLine_kept ?aLine_worth_kept ?iLine_worth_kept ?lLine_worth_kept ?cLine_worth_kept ?kLine_worth_kept ?aLine_charge ?iLine_charge ?lLine_charge ?cLine_charge ?kLine_charge ?aLine_most ?iLine_most ?lLine_most ?cLine_most ?kLine_most ?aLine_change ?iLine_change ?lLine_change ?cLine_change ?kLine_change ?aLine_take_home ?iLine_take_home ?lLine_take_home ?cLine_take_home ?kLine_take_home ?aLine_numbers ?iLine_numbers ?lLine_numbers ?cLine_numbers ?kLine_numbers ?aOrder___init__ ?iOrder___init__ ?lOrder___init__ ?cOrder___init__ ?kOrder___init__ ?aOrder_owed ?iOrder_owed ?lOrder_owed ?cOrder_owed ?kOrder_owed ?aOrder_overpaid ?iOrder_overpaid ?lOrder_overpaid ?cOrder_overpaid ?kOrder_overpaid ?aOrder_change_line ?iOrder_change_line ?lOrder_change_line ?cOrder_change_line ?kOrder_change_line ?aOrder_receive ?iOrder_receive ?lOrder_receive ?cOrder_receive ?kOrder_receive ?aBook___init__ ?iBook___init__ ?lBook___init__ ?cBook___init__ ?kBook___init__ ?aBook_do ?iBook_do ?lBook_do ?cBook_do ?kBook_do ?aBook__begin ?iBook__begin ?lBook__begin ?cBook__begin ?kBook__begin ?aBook__found ?iBook__found ?lBook__found ?cBook__found ?kBook__found ?aBook__refuse ?iBook__refuse ?lBook__refuse ?cBook__refuse ?kBook__refuse ?aBook__carry_out ?iBook__carry_out ?lBook__carry_out ?cBook__carry_out ?kBook__carry_out ?aLine_put_back ?iLine_put_back ?lLine_put_back ?cLine_put_back ?kLine_put_back ?aLine_told ?iLine_told ?lLine_told ?cLine_told ?kLine_told ?aOrder_take_back ?iOrder_take_back ?lOrder_take_back ?cOrder_take_back ?kOrder_take_back ?aBook_undo ?iBook_undo ?lBook_undo ?cBook_undo ?kBook_undo ?aBook_orders ?iBook_orders ?lBook_orders ?cBook_orders ?kBook_orders ?aBook_told ?iBook_told ?lBook_told ?cBook_told ?kBook_told ?aBook_paid ?iBook_paid ?lBook_paid ?cBook_paid ?kBook_paid ?aBook_owed ?iBook_owed ?lBook_owed ?cBook_owed ?kBook_owed ?aBook_rows ?iBook_rows ?lBook_rows ?cBook_rows ?kBook_rows ?aBook_settled ?iBook_settled ?lBook_settled ?cBook_settled ?kBook_settled ?gNoDeed ?qNoDeed ?kpNoDeed ?sbNoDeed ?tyNoDeed ?icNoDeed ?gNoLines ?qNoLines ?kpNoLines ?sbNoLines ?tyNoLines ?icNoLines ?gNoItem ?qNoItem ?kpNoItem ?sbNoItem ?tyNoItem ?icNoItem ?gNoNumber ?qNoNumber ?kpNoNumber ?sbNoNumber ?tyNoNumber ?icNoNumber ?gFullBook ?qFullBook ?kpFullBook ?sbFullBook ?tyFullBook ?icFullBook ?gNoOrder ?qNoOrder ?kpNoOrder ?sbNoOrder ?tyNoOrder ?icNoOrder ?gSameOrder ?qSameOrder ?kpSameOrder ?sbSameOrder ?tySameOrder ?icSameOrder ?gNoLine ?qNoLine ?kpNoLine ?sbNoLine ?tyNoLine ?icNoLine ?gTooMuch ?qTooMuch ?kpTooMuch ?sbTooMuch ?tyTooMuch ?icTooMuch ?xNoDeed_NoDeed ?xNoDeed_NoLines ?xNoDeed_NoItem ?xNoDeed_NoNumber ?xNoDeed_FullBook ?xNoDeed_NoOrder ?xNoDeed_SameOrder ?xNoDeed_NoLine ?xNoDeed_TooMuch ?xNoLines_NoDeed ?xNoLines_NoLines ?xNoLines_NoItem ?xNoLines_NoNumber ?xNoLines_FullBook ?xNoLines_NoOrder ?xNoLines_SameOrder ?xNoLines_NoLine ?xNoLines_TooMuch ?xNoItem_NoDeed ?xNoItem_NoLines ?xNoItem_NoItem ?xNoItem_NoNumber ?xNoItem_FullBook ?xNoItem_NoOrder ?xNoItem_SameOrder ?xNoItem_NoLine ?xNoItem_TooMuch ?xNoNumber_NoDeed ?xNoNumber_NoLines ?xNoNumber_NoItem ?xNoNumber_NoNumber ?xNoNumber_FullBook ?xNoNumber_NoOrder ?xNoNumber_SameOrder ?xNoNumber_NoLine ?xNoNumber_TooMuch ?xFullBook_NoDeed ?xFullBook_NoLines ?xFullBook_NoItem ?xFullBook_NoNumber ?xFullBook_FullBook ?xFullBook_NoOrder ?xFullBook_SameOrder ?xFullBook_NoLine ?xFullBook_TooMuch ?xNoOrder_NoDeed ?xNoOrder_NoLines ?xNoOrder_NoItem ?xNoOrder_NoNumber ?xNoOrder_FullBook ?xNoOrder_NoOrder ?xNoOrder_SameOrder ?xNoOrder_NoLine ?xNoOrder_TooMuch ?xSameOrder_NoDeed ?xSameOrder_NoLines ?xSameOrder_NoItem ?xSameOrder_NoNumber ?xSameOrder_FullBook ?xSameOrder_NoOrder ?xSameOrder_SameOrder ?xSameOrder_NoLine ?xSameOrder_TooMuch ?xNoLine_NoDeed ?xNoLine_NoLines ?xNoLine_NoItem ?xNoLine_NoNumber ?xNoLine_FullBook ?xNoLine_NoOrder ?xNoLine_SameOrder ?xNoLine_NoLine ?xNoLine_TooMuch ?xTooMuch_NoDeed ?xTooMuch_NoLines ?xTooMuch_NoItem ?xTooMuch_NoNumber ?xTooMuch_FullBook ?xTooMuch_NoOrder ?xTooMuch_SameOrder ?xTooMuch_NoLine ?xTooMuch_TooMuch ?gNothingDone ?qNothingDone ?kpNothingDone ?sbNothingDone ?tyNothingDone ?icNothingDone ?spC ?tkC ?gFlowError ?sbFlow ?icFlow ?tyFlow ?xNothingDone_NothingDone ?xNothingDone_NoDeed ?xNothingDone_NoLines ?xNothingDone_NoItem ?xNothingDone_NoNumber ?xNothingDone_FullBook ?xNothingDone_NoOrder ?xNothingDone_SameOrder ?xNothingDone_NoLine ?xNothingDone_TooMuch ?gaNothingDone ?ggNothingDone ?hdNothingDone ?caNothingDone ?mrNothingDone ?suNothingDone ?flNothingDone ?v_MOST_LINES ?v_MOST_LETTERS ?v_MOST_PIECES ?v_MOST_CENTS ?v_MOST_PACK ?v_MOST_ORDERS ?gDEEDS ?gOFL ?lD ?lD0 ?lD1 ?lD2 ?lD3 ?lD4 ?lD5 ?lD6 ?lD7 ?lF
    (case a1 => k_is)
    (case l1 => k_is)
    (case c1 => k_is)
    (case k1 => k_is)
    (case a2 => k_is)
    (case l2 => k_is)
    (case c2 => k_is)
    (case k2 => k_is)
    (case a3 => k_is)
    (case l3 => k_is)
    (case c3 => k_is)
    (case k3 => k_is)
    (case a4 => k_is)
    (case l4 => k_is)
    (case c4 => k_is)
    (case k4 => k_is)
    (case a5 => k_is)
    (case l5 => k_is)
    (case c5 => k_is)
    (case k5 => k_is)
    (case a6 => k_is)
    (case l6 => k_is)
    (case c6 => k_is)
    (case k6 => k_is)
    (case a7 => k_is)
    (case l7 => k_is)
    (case c7 => k_is)
    (case k7 => k_is)
    (case a8 => k_is)
    (case l8 => k_is)
    (case c8 => k_is)
    (case k8 => k_is)
    (case a9 => k_is)
    (case l9 => k_is)
    (case c9 => k_is)
    (case k9 => k_is)
    (case a10 => k_is)
    (case l10 => k_is)
    (case c10 => k_is)
    (case k10 => k_is)
    (case a11 => k_is)
    (case l11 => k_is)
    (case c11 => k_is)
    (case k11 => k_is)
    (case a12 => k_is)
    (case l12 => k_is)
    (case c12 => k_is)
    (case k12 => k_is)
    (case a13 => k_is)
    (case l13 => k_is)
    (case c13 => k_is)
    (case k13 => k_is)
    (case a14 => k_is)
    (case l14 => k_is)
    (case c14 => k_is)
    (case k14 => k_is)
    (case a15 => k_is)
    (case l15 => k_is)
    (case c15 => k_is)
    (case k15 => k_is)
    (case a16 => k_is)
    (case l16 => k_is)
    (case c16 => k_is)
    (case k16 => k_is)
    (case a17 => k_is)
    (case l17 => k_is)
    (case c17 => k_is)
    (case k17 => k_is)
    (case a18 => k_is)
    (case l18 => k_is)
    (case c18 => k_is)
    (case k18 => k_is)
    (case a19 => k_is)
    (case l19 => k_is)
    (case c19 => k_is)
    (case k19 => k_is)
    (case a20 => k_is)
    (case l20 => k_is)
    (case c20 => k_is)
    (case k20 => k_is)
    (case a21 => k_is)
    (case l21 => k_is)
    (case c21 => k_is)
    (case k21 => k_is)
    (case a22 => k_is)
    (case l22 => k_is)
    (case c22 => k_is)
    (case k22 => k_is)
    (case a23 => k_is)
    (case l23 => k_is)
    (case c23 => k_is)
    (case k23 => k_is)
    (case a24 => k_is)
    (case l24 => k_is)
    (case c24 => k_is)
    (case k24 => k_is)
    (case a25 => k_is)
    (case l25 => k_is)
    (case c25 => k_is)
    (case k25 => k_is)
    (case a26 => k_is)
    (case l26 => k_is)
    (case c26 => k_is)
    (case k26 => k_is)
    (case a27 => k_is)
    (case l27 => k_is)
    (case c27 => k_is)
    (case k27 => k_is)
    (case a28 => k_is)
    (case l28 => k_is)
    (case c28 => k_is)
    (case k28 => k_is)
    (case a29 => k_is)
    (case l29 => k_is)
    (case c29 => k_is)
    (case k29 => k_is)
    (case a30 => k_is)
    (case l30 => k_is)
    (case c30 => k_is)
    (case k30 => k_is)
    (case a31 => k_is)
    (case l31 => k_is)
    (case c31 => k_is)
    (case k31 => k_is)
    (case a32 => k_is)
    (case l32 => k_is)
    (case c32 => k_is)
    (case k32 => k_is)
    (case a33 => k_is)
    (case l33 => k_is)
    (case c33 => k_is)
    (case k33 => k_is)
    (case a34 => k_is)
    (case l34 => k_is)
    (case c34 => k_is)
    (case k34 => k_is)
    (case a35 => k_is)
    (case l35 => k_is)
    (case c35 => k_is)
    (case k35 => k_is)
    (case a36 => k_is)
    (case l36 => k_is)
    (case c36 => k_is)
    (case k36 => k_is)
    (case z1 => k_is)
    (case z2 => k_is)
    (case z3 => k_is)
    (case z4 => k_is)
    (case z5 => k_is)
    (case z6 => k_is)
    (case z7 => k_is)
    (case z8 => k_is)
    (case z9 => k_is)
    (case z10 => k_is)
    (case z11 => k_is)
    (case z12 => k_is)
    (case z13 => k_is)
    (case z14 => k_is)
    (case z15 => k_is)
    (case gLine => k_is)
    (case pgLine => k_is)
    (case hdLine => k_is)
    (case poLine => k_is)
    (case saLine => k_is)
    (case mkLine => k_is)
    (case kcLine => k_is)
    (case nLine_item => k_is)
    (case nLine_ordered => k_is)
    (case nLine_cents => k_is)
    (case nLine_pack => k_is)
    (case nLine_sent => k_is)
    (case nLine_home => k_is)
    (case nLine_again => k_is)
    (case nLine_credited => k_is)
    (case gOrder => k_is)
    (case pgOrder => k_is)
    (case hdOrder => k_is)
    (case poOrder => k_is)
    (case saOrder => k_is)
    (case mkOrder => k_is)
    (case kcOrder => k_is)
    (case nOrder_lines => k_is)
    (case nOrder_received => k_is)
    (case nOrder_changed => k_is)
    (case nOrder__ahead => k_is)
    (case gBook => k_is)
    (case pgBook => k_is)
    (case hdBook => k_is)
    (case poBook => k_is)
    (case saBook => k_is)
    (case mkBook => k_is)
    (case kcBook => k_is)
    (case nBook__orders => k_is)
    (case nBook__deeds => k_is)
    (case aLine___init__ => k_is)
    (case iLine___init__ => k_is)
    (case lLine___init__ => k_is)
    (case cLine___init__ => k_is)
    (case kLine___init__ => k_is)
    (case aLine_kept => k_is)
    (case iLine_kept => k_is)
    (case lLine_kept => k_is)
    (case cLine_kept => k_is)
    (case kLine_kept => k_is)
    (case aLine_worth_kept => k_is)
    (case iLine_worth_kept => k_is)
    (case lLine_worth_kept => k_is)
    (case cLine_worth_kept => k_is)
    (case kLine_worth_kept => k_is)
    (case aLine_charge => k_is)
    (case iLine_charge => k_is)
    (case lLine_charge => k_is)
    (case cLine_charge => k_is)
    (case kLine_charge => k_is)
    (case aLine_most => k_is)
    (case iLine_most => k_is)
    (case lLine_most => k_is)
    (case cLine_most => k_is)
    (case kLine_most => k_is)
    (case aLine_change => k_is)
    (case iLine_change => k_is)
    (case lLine_change => k_is)
    (case cLine_change => k_is)
    (case kLine_change => k_is)
    (case aLine_take_home => k_is)
    (case iLine_take_home => k_is)
    (case lLine_take_home => k_is)
    (case cLine_take_home => k_is)
    (case kLine_take_home => k_is)
    (case aLine_numbers => k_is)
    (case iLine_numbers => k_is)
    (case lLine_numbers => k_is)
    (case cLine_numbers => k_is)
    (case kLine_numbers => k_is)
    (case aOrder___init__ => k_is)
    (case iOrder___init__ => k_is)
    (case lOrder___init__ => k_is)
    (case cOrder___init__ => k_is)
    (case kOrder___init__ => k_is)
    (case aOrder_owed => k_is)
    (case iOrder_owed => k_is)
    (case lOrder_owed => k_is)
    (case cOrder_owed => k_is)
    (case kOrder_owed => k_is)
    (case aOrder_overpaid => k_is)
    (case iOrder_overpaid => k_is)
    (case lOrder_overpaid => k_is)
    (case cOrder_overpaid => k_is)
    (case kOrder_overpaid => k_is)
    (case aOrder_change_line => k_is)
    (case iOrder_change_line => k_is)
    (case lOrder_change_line => k_is)
    (case cOrder_change_line => k_is)
    (case kOrder_change_line => k_is)
    (case aOrder_receive => k_is)
    (case iOrder_receive => k_is)
    (case lOrder_receive => k_is)
    (case cOrder_receive => k_is)
    (case kOrder_receive => k_is)
    (case aBook___init__ => k_is)
    (case iBook___init__ => k_is)
    (case lBook___init__ => k_is)
    (case cBook___init__ => k_is)
    (case kBook___init__ => k_is)
    (case aBook_do => k_is)
    (case iBook_do => k_is)
    (case lBook_do => k_is)
    (case cBook_do => k_is)
    (case kBook_do => k_is)
    (case aBook__begin => k_is)
    (case iBook__begin => k_is)
    (case lBook__begin => k_is)
    (case cBook__begin => k_is)
    (case kBook__begin => k_is)
    (case aBook__found => k_is)
    (case iBook__found => k_is)
    (case lBook__found => k_is)
    (case cBook__found => k_is)
    (case kBook__found => k_is)
    (case aBook__refuse => k_is)
    (case iBook__refuse => k_is)
    (case lBook__refuse => k_is)
    (case cBook__refuse => k_is)
    (case kBook__refuse => k_is)
    (case aBook__carry_out => k_is)
    (case iBook__carry_out => k_is)
    (case lBook__carry_out => k_is)
    (case cBook__carry_out => k_is)
    (case kBook__carry_out => k_is)
    (case aLine_put_back => k_is)
    (case iLine_put_back => k_is)
    (case lLine_put_back => k_is)
    (case cLine_put_back => k_is)
    (case kLine_put_back => k_is)
    (case aLine_told => k_is)
    (case iLine_told => k_is)
    (case lLine_told => k_is)
    (case cLine_told => k_is)
    (case kLine_told => k_is)
    (case aOrder_take_back => k_is)
    (case iOrder_take_back => k_is)
    (case lOrder_take_back => k_is)
    (case cOrder_take_back => k_is)
    (case kOrder_take_back => k_is)
    (case aBook_undo => k_is)
    (case iBook_undo => k_is)
    (case lBook_undo => k_is)
    (case cBook_undo => k_is)
    (case kBook_undo => k_is)
    (case aBook_orders => k_is)
    (case iBook_orders => k_is)
    (case lBook_orders => k_is)
    (case cBook_orders => k_is)
    (case kBook_orders => k_is)
    (case aBook_told => k_is)
    (case iBook_told => k_is)
    (case lBook_told => k_is)
    (case cBook_told => k_is)
    (case kBook_told => k_is)
    (case aBook_paid => k_is)
    (case iBook_paid => k_is)
    (case lBook_paid => k_is)
    (case cBook_paid => k_is)
    (case kBook_paid => k_is)
    (case aBook_owed => k_is)
    (case iBook_owed => k_is)
    (case lBook_owed => k_is)
    (case cBook_owed => k_is)
    (case kBook_owed => k_is)
    (case aBook_rows => k_is)
    (case iBook_rows => k_is)
    (case lBook_rows => k_is)
    (case cBook_rows => k_is)
    (case kBook_rows => k_is)
    (case aBook_settled => k_is)
    (case iBook_settled => k_is)
    (case lBook_settled => k_is)
    (case cBook_settled => k_is)
    (case kBook_settled => k_is)
    (case gNoDeed => k_is)
    (case qNoDeed => k_exc)
    (case kpNoDeed => k_is)
    (case sbNoDeed => k_is)
    (case tyNoDeed => k_is)
    (case icNoDeed => k_is)
    (case gNoLines => k_is)
    (case qNoLines => k_exc)
    (case kpNoLines => k_is)
    (case sbNoLines => k_is)
    (case tyNoLines => k_is)
    (case icNoLines => k_is)
    (case gNoItem => k_is)
    (case qNoItem => k_exc)
    (case kpNoItem => k_is)
    (case sbNoItem => k_is)
    (case tyNoItem => k_is)
    (case icNoItem => k_is)
    (case gNoNumber => k_is)
    (case qNoNumber => k_exc)
    (case kpNoNumber => k_is)
    (case sbNoNumber => k_is)
    (case tyNoNumber => k_is)
    (case icNoNumber => k_is)
    (case gFullBook => k_is)
    (case qFullBook => k_exc)
    (case kpFullBook => k_is)
    (case sbFullBook => k_is)
    (case tyFullBook => k_is)
    (case icFullBook => k_is)
    (case gNoOrder => k_is)
    (case qNoOrder => k_exc)
    (case kpNoOrder => k_is)
    (case sbNoOrder => k_is)
    (case tyNoOrder => k_is)
    (case icNoOrder => k_is)
    (case gSameOrder => k_is)
    (case qSameOrder => k_exc)
    (case kpSameOrder => k_is)
    (case sbSameOrder => k_is)
    (case tySameOrder => k_is)
    (case icSameOrder => k_is)
    (case gNoLine => k_is)
    (case qNoLine => k_exc)
    (case kpNoLine => k_is)
    (case sbNoLine => k_is)
    (case tyNoLine => k_is)
    (case icNoLine => k_is)
    (case gTooMuch => k_is)
    (case qTooMuch => k_exc)
    (case kpTooMuch => k_is)
    (case sbTooMuch => k_is)
    (case tyTooMuch => k_is)
    (case icTooMuch => k_is)
    (case xNoDeed_NoDeed => k_is)
    (case xNoDeed_NoLines => k_is)
    (case xNoDeed_NoItem => k_is)
    (case xNoDeed_NoNumber => k_is)
    (case xNoDeed_FullBook => k_is)
    (case xNoDeed_NoOrder => k_is)
    (case xNoDeed_SameOrder => k_is)
    (case xNoDeed_NoLine => k_is)
    (case xNoDeed_TooMuch => k_is)
    (case xNoLines_NoDeed => k_is)
    (case xNoLines_NoLines => k_is)
    (case xNoLines_NoItem => k_is)
    (case xNoLines_NoNumber => k_is)
    (case xNoLines_FullBook => k_is)
    (case xNoLines_NoOrder => k_is)
    (case xNoLines_SameOrder => k_is)
    (case xNoLines_NoLine => k_is)
    (case xNoLines_TooMuch => k_is)
    (case xNoItem_NoDeed => k_is)
    (case xNoItem_NoLines => k_is)
    (case xNoItem_NoItem => k_is)
    (case xNoItem_NoNumber => k_is)
    (case xNoItem_FullBook => k_is)
    (case xNoItem_NoOrder => k_is)
    (case xNoItem_SameOrder => k_is)
    (case xNoItem_NoLine => k_is)
    (case xNoItem_TooMuch => k_is)
    (case xNoNumber_NoDeed => k_is)
    (case xNoNumber_NoLines => k_is)
    (case xNoNumber_NoItem => k_is)
    (case xNoNumber_NoNumber => k_is)
    (case xNoNumber_FullBook => k_is)
    (case xNoNumber_NoOrder => k_is)
    (case xNoNumber_SameOrder => k_is)
    (case xNoNumber_NoLine => k_is)
    (case xNoNumber_TooMuch => k_is)
    (case xFullBook_NoDeed => k_is)
    (case xFullBook_NoLines => k_is)
    (case xFullBook_NoItem => k_is)
    (case xFullBook_NoNumber => k_is)
    (case xFullBook_FullBook => k_is)
    (case xFullBook_NoOrder => k_is)
    (case xFullBook_SameOrder => k_is)
    (case xFullBook_NoLine => k_is)
    (case xFullBook_TooMuch => k_is)
    (case xNoOrder_NoDeed => k_is)
    (case xNoOrder_NoLines => k_is)
    (case xNoOrder_NoItem => k_is)
    (case xNoOrder_NoNumber => k_is)
    (case xNoOrder_FullBook => k_is)
    (case xNoOrder_NoOrder => k_is)
    (case xNoOrder_SameOrder => k_is)
    (case xNoOrder_NoLine => k_is)
    (case xNoOrder_TooMuch => k_is)
    (case xSameOrder_NoDeed => k_is)
    (case xSameOrder_NoLines => k_is)
    (case xSameOrder_NoItem => k_is)
    (case xSameOrder_NoNumber => k_is)
    (case xSameOrder_FullBook => k_is)
    (case xSameOrder_NoOrder => k_is)
    (case xSameOrder_SameOrder => k_is)
    (case xSameOrder_NoLine => k_is)
    (case xSameOrder_TooMuch => k_is)
    (case xNoLine_NoDeed => k_is)
    (case xNoLine_NoLines => k_is)
    (case xNoLine_NoItem => k_is)
    (case xNoLine_NoNumber => k_is)
    (case xNoLine_FullBook => k_is)
    (case xNoLine_NoOrder => k_is)
    (case xNoLine_SameOrder => k_is)
    (case xNoLine_NoLine => k_is)
    (case xNoLine_TooMuch => k_is)
    (case xTooMuch_NoDeed => k_is)
    (case xTooMuch_NoLines => k_is)
    (case xTooMuch_NoItem => k_is)
    (case xTooMuch_NoNumber => k_is)
    (case xTooMuch_FullBook => k_is)
    (case xTooMuch_NoOrder => k_is)
    (case xTooMuch_SameOrder => k_is)
    (case xTooMuch_NoLine => k_is)
    (case xTooMuch_TooMuch => k_is)
    (case gNothingDone => k_is)
    (case qNothingDone => k_exc)
    (case kpNothingDone => k_is)
    (case sbNothingDone => k_is)
    (case tyNothingDone => k_is)
    (case icNothingDone => k_is)
    (case spC => k_is)
    (case tkC => k_is)
    (case gFlowError => k_is)
    (case sbFlow => k_is)
    (case icFlow => k_is)
    (case tyFlow => k_is)
    (case xNothingDone_NothingDone => k_is)
    (case xNothingDone_NoDeed => k_is)
    (case xNothingDone_NoLines => k_is)
    (case xNothingDone_NoItem => k_is)
    (case xNothingDone_NoNumber => k_is)
    (case xNothingDone_FullBook => k_is)
    (case xNothingDone_NoOrder => k_is)
    (case xNothingDone_SameOrder => k_is)
    (case xNothingDone_NoLine => k_is)
    (case xNothingDone_TooMuch => k_is)
    (case gaNothingDone => k_is)
    (case ggNothingDone => k_is)
    (case hdNothingDone => k_is)
    (case caNothingDone => k_is)
    (case mrNothingDone => k_is)
    (case suNothingDone => k_is)
    (case flNothingDone => k_is)
    (case v_MOST_LINES => k_is)
    (case v_MOST_LETTERS => k_is)
    (case v_MOST_PIECES => k_is)
    (case v_MOST_CENTS => k_is)
    (case v_MOST_PACK => k_is)
    (case v_MOST_ORDERS => k_is)
    (case gDEEDS => k_is)
    (case gOFL => k_is)
    (case lD => k_is)
    (case lD0 => k_is)
    (case lD1 => k_is)
    (case lD2 => k_is)
    (case lD3 => k_is)
    (case lD4 => k_is)
    (case lD5 => k_is)
    (case lD6 => k_is)
    (case lD7 => k_is)
    (case lF => k_is)


