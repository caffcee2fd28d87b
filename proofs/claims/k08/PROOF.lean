import PyProof.Rows.All
import Wide.All
import OpenK.AllK
import Wide.FinOn
import HandS.ForMost
import HandS.Wide
import HandS.IsInst
import HandS.Evl
import HandS.TupAny
import HandS.ForExc
import HandS.TryMany
import HandS.Style
import HandS.Comp
import HandS.ExcOwn
import HandS.ExcIs
import HandS.Star
import HandS.RaiseMore
import HandS.NoneIn
import HandS.HotCalls
import HandS.SetFor
import HandS.ExcInitHot
import PySem.Challenge.RW_orderflow_k08_texts_read
set_option Elab.async false
set_option linter.all false
set_option maxRecDepth 100000
set_option maxHeartbeats 4000000
/-! Short words of our own over the hand layer: a def that may be called by its name, with what it promises. -/
namespace Of
open PySem PyProof.Rows L2
theorem ite_yes {c : Bool} {A B : Prop} (h : c = true) (a : A) : if c = true then A else B := by rw [if_pos h]; exact a
theorem ite_no {c : Bool} {A B : Prop} (h : c = false) (b : B) : if c = true then A else B := by rw [h, if_neg Bool.false_ne_true]; exact b
theorem ite_bang {c : Bool} {A B : Prop} (h : if c = true then B else A) : if (!c) = true then A else B := by cases c <;> exact h
theorem str_yes {x y : Str} (h : decide (V.str x = V.str y) = true) : x = y := V.str.inj (of_decide_eq_true h)
theorem str_not {x y : Str} (h : ¬ decide (V.str x = V.str y) = true) : x ≠ y := fun e => h (decide_eq_true (congrArg V.str e))
/-- the module gives none of the built-ins' names another meaning -/
structure Blt (mg : Str → Option Value) : Prop where
  m_len : mg "len" = none
  m_isinstance : mg "isinstance" = none
  m_int : mg "int" = none
  m_bool : mg "bool" = none
  m_str : mg "str" = none
  m_list : mg "list" = none
  m_tuple : mg "tuple" = none
  m_range : mg "range" = none
  m_sum : mg "sum" = none
  m_min : mg "min" = none
  m_max : mg "max" = none
  m_abs : mg "abs" = none
  m_ValueError : mg "ValueError" = none
/-- the def st stands in the written part under its name -/
structure DefAt (K : PySem.W.Frag) (mg : Str → Option Value) (x : Str) (st : Stmt) (ps : List Str) : Prop where
  ex : ∃ f fd, Fun K x x st f fd ∧ mg x = some (.ref f) ∧ Binds K fd ps []
/-- it may be called by its name, at the level k, with the promise sp; what leaves it besides is told by CX -/
structure Cal (P : Program) (w : World) (K : PySem.W.Frag) (mg : Str → Option Value) (base : Heap) (CX : CXT) (k : Nat) (x : Str) (ps : List Str) (sp : Sp) : Prop where
  ex : ∃ f fd, FnOk P w K mg base CX k f fd ps sp ∧ mg x = some (.ref f) ∧ PySem.W.keepIn K (.ref f) = true ∧ Binds K fd ps []
section
variable {P : Program} {w : World} {K : PySem.W.Frag} {mg : Str → Option Value} {base : Heap}
theorem Cal.mono {CX : CXT} {j k : Nat} {x : Str} {ps : List Str} {sp : Sp} (c : Cal P w K mg base CX j x ps sp) (h : j ≤ k) : Cal P w K mg base CX k x ps sp := by
  obtain ⟨f, fd, F, r⟩ := c.ex
  exact ⟨f, fd, F.mono h, r⟩
theorem Cal.imp {CX : CXT} {k : Nat} {x : Str} {ps : List Str} {sp sp' : Sp} (c : Cal P w K mg base CX k x ps sp) (h : ∀ vs H Q E, sp' vs H Q E → sp vs H Q E) : Cal P w K mg base CX k x ps sp' := by
  obtain ⟨f, fd, F, r⟩ := c.ex
  exact ⟨f, fd, F.imp h, r⟩
theorem cal_of {x : Str} {st : Stmt} {N ps : List Str} {k : Nat} {sp : Sp} (D : DefAt K mg x st ps) (S : FnScope N ps (defScope st)) (len : ∀ vs H Q E, sp vs H Q E → vs.length = ps.length)
    (hbody : ∀ (f : Addr) (cdv : Value) (A : Around) (outer : List Env) (s : Shared) (H : Hp) (vs : List V) (Q : VK) (E : XK), Room k (A.deeper (envOfC x (defScope st) s.heap.objs.size f cdv)) → sp vs H Q E →
      ∃ t, PSs (cxOf CX0 P w K mg base N x (defScope st) f cdv A outer s H E).nox (defBody st) t ∧ t { nx := fun _ H' => Q .non H', rt := Q } (start N vs) H) : Cal P w K mg base CX0 (k + 1) x ps sp := by
  obtain ⟨f, fd, F, hm, hb⟩ := D.ex
  exact ⟨f, fd, F.ok S len fun cdv A outer s H vs Q E hr h => hbody f cdv A outer s H vs Q E hr h, hm, F.kp, hb⟩
end
/-- a def of the text from what the top has written of it -/
theorem defAt_mk {h : Heap} {K : PySem.W.Frag} {mg : Str → Option Value} (X : K.In h) (G : h.Ns mainGlobals mg) {x : Str} {st : Stmt} {ps : List Str} {f : Addr} {oc kV doc pm cd ct : Value} {od an : Option Addr} {sl : Array (Option Value)}
    (a : PySem.W.nsIn K mainGlobals x = some (some (.ref f))) (l : K.lookup f = some ⟨oc, od, .func (PySem.W.fnOf x x (defArgs st) (defBody st) (defScope st) .none kV doc pm an cd ct), sl⟩) (c : PySem.W.codeIn K cd x = true) (k : PySem.W.keepIn K (.ref f) = true)
    (h : ∀ (kV doc pm : Value) (an : Option Addr) (cdv ct : Value) (us : List Value), us.length = ps.length → bindArgs (PySem.W.fnOf x x (defArgs st) (defBody st) (defScope st) .none kV doc pm an cdv ct) ⟨us, []⟩ = pure (ps.zip us)) : DefAt K mg x st ps :=
  have F := fun_mk (st := st) l c k
  ⟨f, _, F, PySem.W.mg_of X G a, F.binds h⟩
section
variable {X : Cx} {CX : CXT} {k : Nat} {ps : List Str} {sp : Sp} {E : XK} {x : Str} {p pos : Pos} {e : Expr} {es : List Expr} {t : TA}
theorem pe_cal (c : Cal X.prog X.w X.K X.mg X.base CX k x ps sp) (hr : Room k X.A) (hx : Passes CX X E) (ha : PA X (e :: es) t) (hg : Gl X x := by rfl) (hdb : (x == ("__debug__" : Str)) = false := by decide)
    (he : starEach (e :: es) X.env = (false, eval e X.env) :: starEach es X.env := by rfl) (hpl : (backTo pos (starEach es X.env)).any (·.1) = false := by rfl) :
    PE X (.Call (.Name x p) (e :: es) [] pos) (tCall sp [] E t) := by
  obtain ⟨f, fd, F, hm, hk, hb⟩ := c.ex
  exact pe_call F hr hg hm hk hb .nil hx ha hdb he hpl
end
/-! ### the rules that lean on the written part, K said outright (so that they serve within a comprehension) -/
section
variable {X : Cx}
theorem kx_list (K : PySem.W.Frag) (h : X.K = K := by rfl) : IxR X (rIxL K) := h ▸ ix_list
theorem kx_tup (K : PySem.W.Frag) (h : X.K = K := by rfl) : IxR X (rIxT K) := h ▸ ix_tup
theorem kc_len (K : PySem.W.Frag) (h : X.K = K := by rfl) : CallR X (.builtin "len") (fun xs H Q => ∃ p ys, xs = [.ref p] ∧ (SqL K H p ys ∨ SqT K H p ys) ∧ Q (.int ys.length) H) := h ▸ call_len_seq
theorem kc_list (K : PySem.W.Frag) (h : X.K = K := by rfl) : CallR X (.type "list") (fun xs H Q => ∃ p ys, xs = [.ref p] ∧ (SqL K H p ys ∨ SqT K H p ys) ∧ ∀ l, H l = none → Q (.ref l) (upd H l (.lst ys))) := h ▸ call_list_of
theorem kc_tuple (K : PySem.W.Frag) (h : X.K = K := by rfl) : CallR X (.type "tuple") (fun xs H Q => ∃ p ys, xs = [.ref p] ∧ ((SqL K H p ys ∧ ∀ l, H l = none → Q (.ref l) (upd H l (.tup ys))) ∨ (SqT K H p ys ∧ Q (.ref p) H))) := h ▸ call_tuple_of
theorem kc_isi (K : PySem.W.Frag) (h : X.K = K := by rfl) : CallR X (.builtin "isinstance") (rIsi K) := h ▸ call_isi
theorem kc_sum (K : PySem.W.Frag) (hc : X.calm = true) (h : X.K = K := by rfl) : CallR X (.builtin "sum") (rSum K) := h ▸ cr_sum hc
theorem kc_min (K : PySem.W.Frag) (hc : X.calm = true) (h : X.K = K := by rfl) : CallR X (.builtin "min") (rMin K) := h ▸ cr_min hc
theorem kc_max (K : PySem.W.Frag) (hc : X.calm = true) (h : X.K = K := by rfl) : CallR X (.builtin "max") (rMax K) := h ▸ cr_max hc
theorem ko_in (K : PySem.W.Frag) (h : X.K = K := by rfl) : OpR X (compareOp .In) (rIn K false) := h ▸ op_in_seq
theorem ko_notIn (K : PySem.W.Frag) (h : X.K = K := by rfl) : OpR X (compareOp .NotIn) (rIn K true) := h ▸ op_notIn_seq
theorem ko_eqD (K : PySem.W.Frag) (hu : X.A.units + 64 < cLine) (h : X.K = K := by rfl) : OpR X (compareOp .Eq) (rEqD K) := h ▸ op_eqD hu
theorem ko_neD (K : PySem.W.Frag) (hu : X.A.units + 64 < cLine) (h : X.K = K := by rfl) : OpR X (compareOp .NotEq) (rNeD K) := h ▸ op_neD hu
theorem ks_list (K : PySem.W.Frag) (h : X.K = K := by rfl) : SlR X (rSlL K) := h ▸ sl_list
theorem ks_tup (K : PySem.W.Frag) (h : X.K = K := by rfl) : SlR X (rSlA K) := h ▸ sl_tupA
theorem ki_list (K : PySem.W.Frag) {tg l : Expr} {tl : TE} (hl : PE X l tl) (h : X.K = K := by rfl) : PI X tg l (iList K tl) := h ▸ pi_list hl
theorem ki_tup (K : PySem.W.Frag) {tg l : Expr} {tl : TE} (hl : PE X l tl) (h : X.K = K := by rfl) : PI X tg l (iTup K tl) := h ▸ pi_tup hl
end
end Of

set_option Elab.async false
set_option linter.all false
set_option maxRecDepth 100000
set_option maxHeartbeats 4000000
/-! Data of any depth, lists and their places: what the laws' own helpers lean on. -/
namespace L2
open PySem PyProof.Rows
section
variable {K : PySem.W.Frag} {H H' : Hp} {a : Addr} {xs : List V} {v : V}
theorem same_l (e : Same H H') (h : SqL K H a xs) : SqL K H' a xs := e.seq h
theorem same_rd {u : HO} (e : Same H H') (h : Rd H a u) : Rd H' a u := by
  rcases h with h | ⟨o, h⟩
  · exact .inl (e _ _ h)
  · exact .inr ⟨o, e _ _ h⟩
theorem same_t (e : Same H H') (h : SqT K H a xs) : SqT K H' a xs := by
  rcases h with h | h
  · exact .inl (same_rd e h)
  · exact .inr h
theorem same_new {o : HO} (h : H a = none) : Same H (upd H a o) := fun b u e => by
  rw [upd_ne (ne_of_none e h)]
  exact e
/-- what does not stand in H may change -/
theorem same_mut {F : Hp} {o : HO} (e : Same F H) (h : F a = none) : Same F (upd H a o) := fun b u q => by
  rw [upd_ne (ne_of_none q h)]
  exact e _ _ q
mutual
theorem dp_same (e : Same H H') : ∀ (d : PyData) (v : V), Dp K H v d → Dp K H' v d
  | .none, _, h => by cases h; exact .non
  | .bool b, _, h => by cases h; exact .bl _
  | .int i, _, h => by cases h; exact .int _
  | .str x, _, h => by cases h; exact .str _
  | .list ds, _, h => by
    cases h with
    | lst s r => exact .lst (same_l e s) (dpAll_same e ds _ r)
  | .tuple ds, _, h => by
    cases h with
    | tup s r => exact .tup (same_t e s) (dpAll_same e ds _ r)
  | .dict _, _, h => by cases h
theorem dpAll_same (e : Same H H') : ∀ (ds : List PyData) (vs : List V), DpAll K H vs ds → DpAll K H' vs ds
  | [], _, h => by cases h; exact .nil
  | d :: ds, _, h => by
    cases h with
    | cons h1 h2 => exact .cons (dp_same e d _ h1) (dpAll_same e ds _ h2)
end
theorem Dp.same {d : PyData} (h : Dp K H v d) (e : Same H H') : Dp K H' v d := dp_same e d v h
theorem DpAll.same {ds : List PyData} {vs : List V} (h : DpAll K H vs ds) (e : Same H H') : DpAll K H' vs ds := dpAll_same e ds vs h
theorem DpAll.length : ∀ {vs : List V} {ds : List PyData}, DpAll K H vs ds → vs.length = ds.length
  | _, _, .nil => rfl
  | _, _, .cons _ r => by simp only [List.length_cons, DpAll.length r]
theorem DpAll.get : ∀ {vs : List V} {ds : List PyData} {i : Nat} {d : PyData}, DpAll K H vs ds → ds[i]? = some d → ∃ v, vs[i]? = some v ∧ Dp K H v d
  | _, _, _, _, .nil, h => by simp at h
  | _, _, 0, _, .cons (v := v) p _, h => by
    have h := Option.some.inj h
    subst h
    exact ⟨v, rfl, p⟩
  | _, _, i + 1, d, .cons _ r, h => by
    obtain ⟨v, h1, h2⟩ := DpAll.get (i := i) (d := d) r h
    exact ⟨v, h1, h2⟩
theorem DpAll.got : ∀ {vs : List V} {ds : List PyData} {i : Nat} {v : V}, DpAll K H vs ds → vs[i]? = some v → ∃ d, ds[i]? = some d ∧ Dp K H v d
  | _, _, _, _, .nil, h => by simp at h
  | _, _, 0, _, .cons (d := d) p _, h => by
    have h := Option.some.inj h
    subst h
    exact ⟨d, rfl, p⟩
  | _, _, i + 1, v, .cons _ r, h => by
    obtain ⟨d, h1, h2⟩ := DpAll.got (i := i) (v := v) r h
    exact ⟨d, h1, h2⟩
theorem DpAll.append : ∀ {vs ws : List V} {ds es : List PyData}, DpAll K H vs ds → DpAll K H ws es → DpAll K H (vs ++ ws) (ds ++ es)
  | _, _, _, _, .nil, s => s
  | _, _, _, _, .cons p r, s => .cons p (DpAll.append r s)
theorem DpAll.take : ∀ {vs : List V} {ds : List PyData} (n : Nat), DpAll K H vs ds → DpAll K H (vs.take n) (ds.take n)
  | _, _, 0, _ => .nil
  | _, _, _ + 1, .nil => .nil
  | _, _, n + 1, .cons p r => .cons p (DpAll.take n r)
theorem DpAll.drop : ∀ {vs : List V} {ds : List PyData} (n : Nat), DpAll K H vs ds → DpAll K H (vs.drop n) (ds.drop n)
  | _, _, 0, r => r
  | _, _, _ + 1, .nil => .nil
  | _, _, n + 1, .cons _ r => DpAll.drop n r
theorem dpAll_ints : ∀ ns : List Int, DpAll K H (ns.map V.int) (ns.map PyData.int)
  | [] => .nil
  | n :: ns => .cons (.int n) (dpAll_ints ns)
theorem dpAll_ints_inv : ∀ {ns : List Int} {vs : List V}, DpAll K H vs (ns.map PyData.int) → vs = ns.map V.int
  | [], _, h => by cases h; rfl
  | n :: ns, _, h => by
    cases h with
    | cons p r => cases p; rw [dpAll_ints_inv r]; rfl
theorem dp_int {i : Int} (h : Dp K H v (.int i)) : v = .int i := by cases h; rfl
theorem dp_str {x : Str} (h : Dp K H v (.str x)) : v = .str x := by cases h; rfl
theorem dp_list {ds : List PyData} (h : Dp K H v (.list ds)) : ∃ a xs, v = .ref a ∧ SqL K H a xs ∧ DpAll K H xs ds := by
  cases h with
  | lst s r => exact ⟨_, _, rfl, s, r⟩
theorem dp_tuple {ds : List PyData} (h : Dp K H v (.tuple ds)) : ∃ a xs, v = .ref a ∧ SqT K H a xs ∧ DpAll K H xs ds := by
  cases h with
  | tup s r => exact ⟨_, _, rfl, s, r⟩
/-! ### isinstance -/
theorem tyx_l (h : SqL K H a xs) : TyX K H (.ref a) (.type "list") := by
  rcases h with (h | ⟨o, h⟩) | ⟨o, its, n, h, c, _⟩
  · exact .base (.lst h)
  · exact .base (.frz h)
  · exact .kList h c
theorem tyx_t (h : SqT K H a xs) : TyX K H (.ref a) (.type "tuple") := by
  rcases h with (h | ⟨o, h⟩) | ⟨o, its, n, h, c, _⟩
  · exact .base (.tup h)
  · exact .fTuple h
  · exact .kTuple h c
/-- the name of a datum's class -/
def tyName : PyData → String
  | .none => "NoneType" | .bool _ => "bool" | .int _ => "int" | .str _ => "str" | .list _ => "list" | .tuple _ => "tuple" | .dict _ => "dict"
theorem tyx_dp : ∀ {d : PyData}, Dp K H v d → TyX K H v (.type (tyName d))
  | .none, h => by cases h; exact .base .non
  | .bool _, h => by cases h; exact .base (.bl _)
  | .int _, h => by cases h; exact .base (.int _)
  | .str _, h => by cases h; exact .base (.str _)
  | .list _, h => by cases h with | lst s _ => exact tyx_l s
  | .tuple _, h => by cases h with | tup s _ => exact tyx_t s
/-- isinstance(x, T) by the names of two built-in classes -/
def isN (n T : String) : Bool := kitB n T == some true
theorem kitB_all : ∀ n ∈ ["NoneType", "int", "bool", "str", "list", "tuple"], ∀ T ∈ ["int", "bool", "str", "list", "tuple"], kitB n T = some (isN n T) := by decide +kernel
/-! ### == of data -/
theorem shaped_of {d : PyData} (h1 : d.canLay0 = true) (h2 : d.depth ≤ 64) : SeqAt.shaped d = true := by
  unfold SeqAt.shaped
  rw [h1, decide_eq_true h2]
  rfl
theorem eqv_self {d : PyData} (h : SeqAt.shaped d = true) : PyData.eqv d d = true := SeqAt.eqv_refl d (SeqAt.canLay_of_shaped h)
/-- data without dicts, at most n lists or tuples deep, their texts of proper signs -/
def fl : Nat → PyData → Bool
  | _, .none => true
  | _, .bool _ => true
  | _, .int _ => true
  | _, .str x => PyData.strOk x
  | n + 1, .list xs => xs.all (fl n)
  | n + 1, .tuple xs => xs.all (fl n)
  | _, _ => false
theorem fl_all {n : Nat} (f : ∀ d, fl n d = true → d.canLay0 = true ∧ d.depth ≤ n) : ∀ xs : List PyData, xs.all (fl n) = true → PyData.canLayAll0 xs = true ∧ PyData.depthAll xs ≤ n
  | [], _ => ⟨rfl, by unfold PyData.depthAll; omega⟩
  | x :: xs, h => by
    rw [List.all_cons, Bool.and_eq_true] at h
    obtain ⟨h1, h2⟩ := f x h.1
    obtain ⟨h3, h4⟩ := fl_all f xs h.2
    refine ⟨?_, ?_⟩
    · unfold PyData.canLayAll0; rw [h1, h3]; rfl
    · unfold PyData.depthAll; omega
theorem fl_ok : ∀ (n : Nat) (d : PyData), fl n d = true → d.canLay0 = true ∧ d.depth ≤ n
  | n, .none, _ => ⟨rfl, by unfold PyData.depth; omega⟩
  | n, .bool _, _ => ⟨rfl, by unfold PyData.depth; omega⟩
  | n, .int _, _ => ⟨rfl, by unfold PyData.depth; omega⟩
  | n, .str x, h => ⟨by
      cases n <;> exact h, by unfold PyData.depth; omega⟩
  | 0, .list xs, h => by cases h
  | 0, .tuple xs, h => by cases h
  | n + 1, .list xs, h => by
    obtain ⟨h1, h2⟩ := fl_all (fl_ok n) xs h
    exact ⟨h1, by unfold PyData.depth; omega⟩
  | n + 1, .tuple xs, h => by
    obtain ⟨h1, h2⟩ := fl_all (fl_ok n) xs h
    exact ⟨h1, by unfold PyData.depth; omega⟩
  | 0, .dict _, h => by cases h
  | n + 1, .dict _, h => by cases h
theorem shaped_fl {n : Nat} {d : PyData} (h : fl n d = true) (hn : n ≤ 64 := by decide) : SeqAt.shaped d = true :=
  have k := fl_ok n d h
  shaped_of k.1 (Nat.le_trans k.2 hn)
theorem fl_mono : ∀ {n m : Nat} {d : PyData}, fl n d = true → n ≤ m → fl m d = true
  | _, m, .none, _, _ => by cases m <;> rfl
  | _, m, .bool _, _, _ => by cases m <;> rfl
  | _, m, .int _, _, _ => by cases m <;> rfl
  | n, m, .str x, h, _ => by cases n <;> cases m <;> exact h
  | 0, _, .list xs, h, _ => by cases h
  | 0, _, .tuple xs, h, _ => by cases h
  | n + 1, 0, .list xs, h, l => by omega
  | n + 1, 0, .tuple xs, h, l => by omega
  | n + 1, m + 1, .list xs, h, l => by
    show xs.all (fl m) = true
    have h : xs.all (fl n) = true := h
    rw [List.all_eq_true] at h ⊢
    exact fun x hx => fl_mono (h x hx) (by omega)
  | n + 1, m + 1, .tuple xs, h, l => by
    show xs.all (fl m) = true
    have h : xs.all (fl n) = true := h
    rw [List.all_eq_true] at h ⊢
    exact fun x hx => fl_mono (h x hx) (by omega)
  | 0, _, .dict _, h, _ => by cases h
  | n + 1, _, .dict _, h, _ => by cases h
theorem fl_ints (n : Nat) (ns : List Int) : (ns.map PyData.int).all (fl n) = true := by
  rw [List.all_eq_true]
  intro x hx
  obtain ⟨i, _, rfl⟩ := List.mem_map.mp hx
  cases n <;> rfl
end
end L2
namespace Of
open PySem PyProof.Rows L2
/-! ### what is owned (and may change) set aside: all else stands still -/
open Classical in
noncomputable def off (fp : Addr → Prop) (H : Hp) : Hp := fun a => if fp a then none else H a
/-- what is owned stands -/
def Has (fp : Addr → Prop) (H : Hp) : Prop := ∀ a, fp a → H a ≠ none
section
variable {K : PySem.W.Frag} {H H' : Hp} {a p D : Addr} {xs : List V} {v : V} {fp fq : Addr → Prop} {o : HO}
theorem off_in (h : fp a) : off fp H a = none := if_pos h
theorem off_out (h : ¬ fp a) : off fp H a = H a := if_neg h
theorem off_some {u : HO} (h : off fp H a = some u) : ¬ fp a ∧ H a = some u := by
  unfold off at h
  split at h
  · cases h
  · exact ⟨by assumption, h⟩
theorem off_same : Same (off fp H) H := fun _ _ h => (off_some h).2
theorem off_mono (e : Same H H') : Same (off fp H) (off fp H') := fun b u h => by
  obtain ⟨h1, h2⟩ := off_some h
  rw [off_out h1]
  exact e _ _ h2
theorem off_less (h : ∀ a, fp a → fq a) : Same (off fq H) (off fp H) := fun b u q => by
  obtain ⟨h1, h2⟩ := off_some q
  rw [off_out fun z => h1 (h b z)]
  exact h2
theorem off_upd (h : fp p) : off fp (upd H p o) = off fp H := by
  funext b
  by_cases hb : fp b
  · rw [off_in hb, off_in hb]
  · rw [off_out hb, off_out hb, upd_ne fun z => hb (by rw [z]; exact h)]
theorem off_put (h : ¬ fp p) : off fp (upd H p o) p = some o := by rw [off_out h, upd_same]
theorem Has.new (h : Has fp H) (hp : H p = none) : ¬ fp p := fun z => h p z hp
theorem Has.same (h : Has fp H) (e : Same H H') : Has fp H' := fun b z q => by
  cases x : H b with
  | none => exact h b z x
  | some u => rw [e b u x] at q; cases q
theorem Has.upd (h : Has fp H) : Has fp (upd H p o) := fun b z q => by
  by_cases hb : b = p
  · rw [hb, upd_same] at q; cases q
  · rw [upd_ne hb] at q; exact h b z q
theorem has_none : Has (fun _ => False) H := fun _ z => z.elim
theorem off_none : off (fun _ => False) H = H := by
  funext b
  exact if_neg id
theorem Has.off (h : Has fp H) (e : Same (off fp H) H') (hf : ∀ a, fp a → H' a ≠ none) : Has fp H' := hf
/-- a new tuple of data -/
theorem dp_tup_new {ds : List PyData} (hf : Has fp H) (hp : H p = none) (h : DpAll K (off fp H) xs ds) : Dp K (off fp (upd H p (.tup xs))) (.ref p) (.tuple ds) :=
  .tup (.inl (.inl (off_put (hf.new hp)))) (h.same (off_mono (same_new hp)))
theorem dp_lst_new {ds : List PyData} (hf : Has fp H) (hp : H p = none) (h : DpAll K (off fp H) xs ds) : Dp K (off fp (upd H p (.lst xs))) (.ref p) (.list ds) :=
  .lst (.inl (.inl (off_put (hf.new hp)))) (h.same (off_mono (same_new hp)))
/-- what is owned, and the list in the making -/
abbrev And1 (fp : Addr → Prop) (D : Addr) : Addr → Prop := fun a => fp a ∨ a = D
theorem Has.and1 (h : Has fp H) (hD : H D ≠ none) : Has (And1 fp D) H := fun b z => by
  rcases z with z | z
  · exact h b z
  · rw [z]; exact hD
theorem wipe1 {σ : L2.St} {j : Nat} {x : Option V} : wipe ((wipe σ [j]).set j x) [j] = wipe σ [j] := by
  show ((σ.set j none).set j x).set j none = σ.set j none
  rw [List.set_set, List.set_set]
theorem take_succ' {α : Type} {l : List α} {i : Nat} {x : α} (h : l[i]? = some x) : l.take (i + 1) = l.take i ++ [x] := by
  rw [List.take_add_one, h]; rfl
/-- [e for x in xs] over a list, each e a datum; x in the slot j -/
theorem lcD_list {te : TE} {σ : L2.St} {j : Nat} {H1 : Hp} {Qd : Hp → Prop} (ds : List PyData) (hl : xs.length = ds.length) (hz : ds.length ≤ 100000) (hS : SqL K H1 a xs) (hD : H1 D = none) (hf : Has fp H1)
    (turn : ∀ (i : Nat) (x : V) (d : PyData) (H : Hp) (R : VK), xs[i]? = some x → ds[i]? = some d → Same H1 H → Has (And1 fp D) H → (∀ y H', Same H H' → Dp K (off (And1 fp D) H') y d → R y H') → te ((wipe σ [j]).set j (some x)) H R)
    (fin : ∀ H' ys, Same H1 H' → H' D = some (.lst ys) → DpAll K (off (And1 fp D) H') ys ds → Dp K (off fp H') (.ref D) (.list ds) → Qd H') :
    ∃ W : Nat → Nat → Hp → Prop, (∃ m, W 0 m (upd H1 D (.lst []))) ∧ ∀ i m H, W i m H →
      ((Itl K a).stop i H ∧ Qd H) ∨ ((Itl K a).go i H ∧ ∃ Nx : Hp → Prop, (∀ H', Nx H' → ∃ m', m' < m ∧ W (i + 1) m' H') ∧ ∀ x H', (Itl K a).yld i H x H' → gName j x (wipe σ [j]) H' fun σ2 H2 => wipe σ2 [j] = wipe σ [j] ∧ tYes σ2 H2 fun b H3 =>
        if b = true then te σ2 H3 fun y H4 => ∃ acc, H4 D = some (.lst acc) ∧ acc.length < sizeLine ∧ Nx (upd H4 D (.lst (acc ++ [y]))) else Nx H3) := by
  refine lc_list (K := K) (a := a) (xs := xs) (fun i H => ∃ ys, Same H1 H ∧ H D = some (.lst ys) ∧ DpAll K (off (And1 fp D) H) ys (ds.take i)) ⟨[], same_new hD, upd_same, .nil⟩ (fun i H _ ⟨_, s, _⟩ => same_l s hS) ?_ ?_
  · rintro i x H hx ⟨ys, s, hd, r⟩
    have hi : i < ds.length := by
      have := (List.getElem?_eq_some_iff.mp hx).1
      omega
    have hf1 : Has (And1 fp D) H := (hf.same s).and1 (by rw [hd]; exact fun z => nomatch z)
    refine ⟨wipe1, ?_⟩
    refine turn i x ds[i] H _ hx (List.getElem?_eq_getElem hi) s hf1 fun y H4 s4 r4 => ?_
    have hd4 : H4 D = some (.lst ys) := s4 _ _ hd
    have hn := r.length
    rw [List.length_take] at hn
    refine ⟨ys, hd4, Evl.sz_lt (by omega), ys ++ [y], same_mut (s.trans s4) hD, upd_same, ?_⟩
    rw [off_upd (Or.inr rfl), take_succ' (List.getElem?_eq_getElem hi)]
    exact (r.same (off_mono s4)).append (.cons r4 .nil)
  · rintro H ⟨ys, s, hd, r⟩
    rw [hl, List.take_length] at r
    refine fin H ys s hd r (.lst (.inl (.inl ?_)) (r.same (off_less fun _ z => Or.inl z)))
    rw [off_out (hf.new hD), hd]
/-- .. over range(n) -/
theorem lcD_range {te : TE} {σ : L2.St} {j : Nat} {H1 : Hp} {Qd : Hp → Prop} {n : Nat} (ds : List PyData) (hl : n = ds.length) (hz : ds.length ≤ 100000) (hD : H1 D = none) (hf : Has fp H1)
    (turn : ∀ (i : Nat) (d : PyData) (H : Hp) (R : VK), i < n → ds[i]? = some d → Same H1 H → Has (And1 fp D) H → (∀ y H', Same H H' → Dp K (off (And1 fp D) H') y d → R y H') → te ((wipe σ [j]).set j (some (.int (0 + (i : Int))))) H R)
    (fin : ∀ H' ys, Same H1 H' → H' D = some (.lst ys) → DpAll K (off (And1 fp D) H') ys ds → Dp K (off fp H') (.ref D) (.list ds) → Qd H') :
    ∃ W : Nat → Nat → Hp → Prop, (∃ m, W 0 m (upd H1 D (.lst []))) ∧ ∀ i m H, W i m H →
      ((Itr 0 n).stop i H ∧ Qd H) ∨ ((Itr 0 n).go i H ∧ ∃ Nx : Hp → Prop, (∀ H', Nx H' → ∃ m', m' < m ∧ W (i + 1) m' H') ∧ ∀ x H', (Itr 0 n).yld i H x H' → gName j x (wipe σ [j]) H' fun σ2 H2 => wipe σ2 [j] = wipe σ [j] ∧ tYes σ2 H2 fun b H3 =>
        if b = true then te σ2 H3 fun y H4 => ∃ acc, H4 D = some (.lst acc) ∧ acc.length < sizeLine ∧ Nx (upd H4 D (.lst (acc ++ [y]))) else Nx H3) := by
  refine lc_range (lo := 0) (n := n) (fun i H => ∃ ys, Same H1 H ∧ H D = some (.lst ys) ∧ DpAll K (off (And1 fp D) H) ys (ds.take i)) ⟨[], same_new hD, upd_same, .nil⟩ ?_ ?_
  · rintro i H hx ⟨ys, s, hd, r⟩
    have hi : i < ds.length := by omega
    have hf1 : Has (And1 fp D) H := (hf.same s).and1 (by rw [hd]; exact fun z => nomatch z)
    refine ⟨wipe1, ?_⟩
    refine turn i ds[i] H _ hx (List.getElem?_eq_getElem hi) s hf1 fun y H4 s4 r4 => ?_
    have hd4 : H4 D = some (.lst ys) := s4 _ _ hd
    have hn := r.length
    rw [List.length_take] at hn
    refine ⟨ys, hd4, Evl.sz_lt (by omega), ys ++ [y], same_mut (s.trans s4) hD, upd_same, ?_⟩
    rw [off_upd (Or.inr rfl), take_succ' (List.getElem?_eq_getElem hi)]
    exact (r.same (off_mono s4)).append (.cons r4 .nil)
  · rintro H ⟨ys, s, hd, r⟩
    rw [hl, List.take_length] at r
    refine fin H ys s hd r (.lst (.inl (.inl ?_)) (r.same (off_less fun _ z => Or.inl z)))
    rw [off_out (hf.new hD), hd]
/-- [e for x in xs if t] over a list of ints, each e an int -/
theorem lcI_filter {tt : TT} {te : TE} {σ : L2.St} {j : Nat} {H1 : Hp} {Qd : Hp → Prop} {ns : List Int} (c : Int → Bool) (f : Int → Int) (hz : ns.length ≤ 100000) (hS : SqL K H1 a (ns.map V.int)) (hD : H1 D = none)
    (test : ∀ (x : Int) (H : Hp) (R : Bool → Hp → Prop), Same H1 H → R (c x) H → tt ((wipe σ [j]).set j (some (.int x))) H R)
    (turn : ∀ (x : Int) (H : Hp) (R : VK), Same H1 H → R (.int (f x)) H → te ((wipe σ [j]).set j (some (.int x))) H R)
    (fin : ∀ H', Same H1 H' → H' D = some (.lst (((ns.filter c).map f).map V.int)) → Qd H') :
    ∃ W : Nat → Nat → Hp → Prop, (∃ m, W 0 m (upd H1 D (.lst []))) ∧ ∀ i m H, W i m H →
      ((Itl K a).stop i H ∧ Qd H) ∨ ((Itl K a).go i H ∧ ∃ Nx : Hp → Prop, (∀ H', Nx H' → ∃ m', m' < m ∧ W (i + 1) m' H') ∧ ∀ x H', (Itl K a).yld i H x H' → gName j x (wipe σ [j]) H' fun σ2 H2 => wipe σ2 [j] = wipe σ [j] ∧ tt σ2 H2 fun b H3 =>
        if b = true then te σ2 H3 fun y H4 => ∃ acc, H4 D = some (.lst acc) ∧ acc.length < sizeLine ∧ Nx (upd H4 D (.lst (acc ++ [y]))) else Nx H3) := by
  refine lc_list (K := K) (a := a) (xs := ns.map V.int) (fun i H => Same H1 H ∧ H D = some (.lst ((((ns.take i).filter c).map f).map V.int))) ⟨same_new hD, upd_same⟩ (fun i H _ ⟨s, _⟩ => same_l s hS) ?_ ?_
  · rintro i x H hx ⟨s, hd⟩
    rw [List.getElem?_map] at hx
    cases e : ns[i]? with
    | none => rw [e] at hx; cases hx
    | some n =>
      rw [e] at hx
      have hx := Option.some.inj hx
      subst hx
      have hi : i < ns.length := (List.getElem?_eq_some_iff.mp e).1
      refine ⟨wipe1, test n H _ s ?_⟩
      refine ite2 (fun h => ?_) (fun h => ?_)
      · refine turn n H _ s ⟨_, hd, Evl.sz_lt ?_, same_mut s hD, ?_⟩
        · rw [List.length_map, List.length_map]
          have h1 := List.length_filter_le c (ns.take i)
          have h2 := List.length_take (i := i) (l := ns)
          omega
        · rw [upd_same, take_succ' e, List.filter_append, List.map_append, List.map_append]
          have e1 : [n].filter c = [n] := by simp [h]
          rw [e1]; rfl
      · refine ⟨s, ?_⟩
        rw [hd, take_succ' e, List.filter_append]
        have e1 : [n].filter c = [] := by simp [h]
        rw [e1, List.append_nil]
  · rintro H ⟨s, hd⟩
    rw [List.length_map, List.take_length] at hd
    exact fin H s hd
end
end Of

set_option Elab.async false
set_option linter.all false
set_option maxRecDepth 100000
set_option maxHeartbeats 4000000
/-! The plain account of orders: what the document says a deed does, as functions of data. -/
namespace Of
open PySem PyProof.Rows L2
structure Ln where
  item : Str
  pieces : Int
  cents : Int
  pack : Int
  sent : Int
  home : Int
  again : Int
  credited : Int
structure Od where
  lines : List Ln
  paid : Int
  rows : List (Str × Int)
def Ln.worth (l : Ln) : Int := (l.sent - l.home) * l.cents / l.pack
def Ln.charge (l : Ln) : Int := l.worth - l.credited
def Od.owed (m : Od) : Int := (m.lines.map Ln.charge).sum - m.paid
/-- a line as it is ordered -/
structure LineT where
  item : Str
  pieces : Int
  cents : Int
  pack : Int
def LineT.new (t : LineT) : Ln := ⟨t.item, t.pieces, t.cents, t.pack, 0, 0, 0, 0⟩
inductive Deed where
  | ord (ls : List LineT)
  | goods (w : Str) (o l n : Int)
  | money (w : Str) (o n : Int)
  | move (o p n : Int)
def Deed.word : Deed → Str
  | .ord _ => "order"
  | .goods w _ _ _ => w
  | .money w _ _ => w
  | .move _ _ _ => "move"
def GoodsW (w : Str) : Prop := w = "deliver" ∨ w = "back" ∨ w = "swap" ∨ w = "credit"
def MoneyW (w : Str) : Prop := w = "pay" ∨ w = "refund"
/-- the words are those of the eight -/
def Deed.Shape : Deed → Prop
  | .ord _ => True
  | .goods w _ _ _ => GoodsW w
  | .money w _ _ => MoneyW w
  | .move _ _ _ => True
/-- n lies from nought on below the length -/
def inR (n : Int) (k : Nat) : Bool := decide (0 ≤ n) && decide (n < (k : Int))
theorem inR_iff {n : Int} {k : Nat} : inR n k = true ↔ 0 ≤ n ∧ n < (k : Int) := by
  unfold inR; rw [Bool.and_eq_true, decide_eq_true_eq, decide_eq_true_eq]
def ordAt (M : List Od) (n : Int) : Od := M.getD n.toNat ⟨[], 0, []⟩
def lnAt (m : Od) (n : Int) : Ln := m.lines.getD n.toNat ⟨⟨#[]⟩, 0, 0, 0, 0, 0, 0, 0⟩
/-- as many as go, of a line -/
def mostL (w : Str) (l : Ln) : Int := if w = "deliver" then l.pieces - l.sent + l.again else if w = "credit" then l.charge else l.sent - l.home
def mostM (w : Str) (at_ pl : Int) (M : List Od) : Int :=
  if inR at_ M.length = false then 5
  else if w = "pay" then (ordAt M at_).owed
  else if w = "refund" ∨ w = "move" then -(ordAt M at_).owed
  else if inR pl (ordAt M at_).lines.length = false then 5
  else mostL w (lnAt (ordAt M at_) pl)
/-- the class that refuses a deed on books whose orders are all right, or the empty text -/
def refusalM (M : List Od) : Deed → Str
  | .ord _ => ""
  | .goods w o l n =>
    if inR o M.length = false then "NoOrder"
    else if inR l (ordAt M o).lines.length = false then "NoLine"
    else if n < 1 then "NoNumber"
    else if mostM w o l M < n then "TooMuch" else ""
  | .money w o n =>
    if inR o M.length = false then "NoOrder"
    else if n < 1 then "NoNumber"
    else if ¬ w = "pay" ∧ mostM w o 0 M < n then "TooMuch" else ""
  | .move o p n =>
    if inR o M.length = false ∨ inR p M.length = false then "NoOrder"
    else if o = p then "SameOrder"
    else if n < 1 then "NoNumber"
    else if mostM "move" o 0 M < n then "TooMuch" else ""
def turnL (w : Str) (n : Int) (l : Ln) : Ln :=
  if w = "deliver" then { l with sent := l.sent + n }
  else if w = "credit" then { l with credited := l.credited + n }
  else
    let b : Ln := { l with home := l.home + n, again := l.again + (if w = "swap" then n else 0) }
    { b with credited := min l.credited b.worth }
def setLine (m : Od) (j : Nat) (l : Ln) : Od := { m with lines := m.lines.set j l }
def addPaid (m : Od) (n : Int) : Od := { m with paid := m.paid + n }
def addRow (m : Od) (w : Str) (c : Int) : Od := { m with rows := m.rows ++ [(w, c)] }
/-- what a deed turns, no rows yet -/
def turnM (M : List Od) : Deed → List Od
  | .ord _ => M
  | .goods w o l n => M.set o.toNat (setLine (ordAt M o) l.toNat (turnL w n (lnAt (ordAt M o) l)))
  | .money w o n => M.set o.toNat (addPaid (ordAt M o) (if w = "pay" then n else -n))
  | .move o p n => (M.set o.toNat (addPaid (ordAt M o) (-n))).set p.toNat (addPaid (ordAt M p) n)
def placesM : Deed → List Int
  | .ord _ => []
  | .goods _ o _ _ => [o]
  | .money _ o _ => [o]
  | .move o p _ => [o, p]
def changesM (M : List Od) (d : Deed) : List (Int × Int) := (placesM d).map fun a => (a, (ordAt (turnM M d) a).owed - (ordAt M a).owed)
def rowsM (M : List Od) (w : Str) (cs : List (Int × Int)) : List Od := cs.foldl (fun M c => M.set c.1.toNat (addRow (ordAt M c.1) w c.2)) M
def stepM (M : List Od) (d : Deed) : List Od :=
  match d with
  | .ord ls => M ++ [⟨ls.map LineT.new, 0, []⟩]
  | d => rowsM (turnM M d) d.word (changesM M d)
/-! ### what stands of every account -/
structure Ln.Ok (l : Ln) : Prop where
  c0 : 0 ≤ l.cents
  c1 : l.cents ≤ 1000000000
  p0 : 1 ≤ l.pack
  p1 : l.pack ≤ 1000
  it : PyData.strOk l.item = true
structure Od.Ok (m : Od) : Prop where
  ne : 1 ≤ m.lines.length
  le : m.lines.length ≤ 20
  ln : ∀ l ∈ m.lines, l.Ok
  rw : ∀ r ∈ m.rows, PyData.strOk r.1 = true
structure WF (M : List Od) : Prop where
  ok : ∀ m ∈ M, m.Ok
/-! ### as data -/
def rowD (r : Str × Int) : PyData := .tuple [.str r.1, .int r.2]
def lnD (l : Ln) : PyData := .list [.str l.item, .int l.pieces, .int l.cents, .int l.pack, .int l.sent, .int l.home, .int l.again, .int l.credited]
def odD (m : Od) : PyData := .list [.list (m.lines.map lnD), .int m.paid, .list (m.rows.map rowD)]
def lineD (t : LineT) : PyData := .tuple [.str t.item, .int t.pieces, .int t.cents, .int t.pack]
def deedD : Deed → PyData
  | .ord ls => .tuple [.str "order", .list (ls.map lineD)]
  | .goods w o l n => .tuple [.str w, .int o, .int l, .int n]
  | .money w o n => .tuple [.str w, .int o, .int n]
  | .move o p n => .tuple [.str "move", .int o, .int p, .int n]
def chD (c : Int × Int) : PyData := .tuple [.int c.1, .int c.2]
def changesD (cs : List (Int × Int)) : PyData := .list (cs.map chD)
/-- a line that may be ordered -/
structure LineT.Ok (t : LineT) : Prop where
  n0 : 1 ≤ t.pieces
  n1 : t.pieces ≤ 1000000
  c0 : 0 ≤ t.cents
  c1 : t.cents ≤ 1000000000
  p0 : 1 ≤ t.pack
  p1 : t.pack ≤ 1000
  i0 : 1 ≤ t.item.length
  i1 : t.item.length ≤ 12
  ia : ∀ c ∈ t.item.cps.toList, 97 ≤ c ∧ c ≤ 122
def Deed.LinesOk : Deed → Prop
  | .ord ls => 1 ≤ ls.length ∧ ls.length ≤ 20 ∧ ∀ t ∈ ls, t.Ok
  | _ => True
theorem LineT.Ok.str {t : LineT} (h : t.Ok) : PyData.strOk t.item = true := by
  unfold PyData.strOk
  rw [Array.all_eq_true']
  intro c hc
  have := h.ia c (by simpa using hc)
  exact decide_eq_true (by omega)
theorem LineT.Ok.ln {t : LineT} (h : t.Ok) : t.new.Ok := ⟨h.c0, h.c1, h.p0, h.p1, h.str⟩
/-! ### the accounts in the heap -/
def LnV (l : Ln) : List V := [.str l.item, .int l.pieces, .int l.cents, .int l.pack, .int l.sent, .int l.home, .int l.again, .int l.credited]
structure OA where
  a : Addr
  ls : Addr
  rs : Addr
  lns : List Addr
inductive Role where
  | top | hd (k : Nat) | ls (k : Nat) | rs (k : Nat) | ln (k j : Nat) | non
structure OdAt (K : PySem.W.Frag) (H F : Hp) (o : OA) (m : Od) : Prop where
  hd : H o.a = some (.lst [.ref o.ls, .int m.paid, .ref o.rs])
  hl : H o.ls = some (.lst (o.lns.map V.ref))
  len : o.lns.length = m.lines.length
  ln : ∀ (i : Nat) x l, o.lns[i]? = some x → m.lines[i]? = some l → H x = some (.lst (LnV l))
  hr : ∃ ts, H o.rs = some (.lst ts) ∧ DpAll K F ts (m.rows.map rowD)
structure Acc (K : PySem.W.Frag) (fp own : Addr → Prop) (H : Hp) (p : Addr) (os : List OA) (M : List Od) : Prop where
  top : H p = some (.lst (os.map fun o => V.ref o.a))
  len : os.length = M.length
  od : ∀ (k : Nat) o m, os[k]? = some o → M[k]? = some m → OdAt K H (off fp H) o m
  role : ∃ r : Addr → Role, r p = .top ∧ ∀ (k : Nat) o, os[k]? = some o → r o.a = .hd k ∧ r o.ls = .ls k ∧ r o.rs = .rs k ∧ ∀ (j : Nat) x, o.lns[j]? = some x → r x = .ln k j
  ow : own p ∧ ∀ o ∈ os, own o.a ∧ own o.ls ∧ own o.rs ∧ ∀ x ∈ o.lns, own x
  sub : ∀ a, own a → fp a
section
variable {K : PySem.W.Frag} {fp fp' own : Addr → Prop} {H H' : Hp} {p : Addr} {os : List OA} {M : List Od}
/-- what does not touch the accounts leaves them -/
theorem Acc.frame (A : Acc K fp own H p os M) (h : ∀ a o, own a → H a = some o → H' a = some o) (s : Same (off fp H) (off fp' H')) (sub : ∀ a, own a → fp' a) : Acc K fp' own H' p os M := by
  refine ⟨h _ _ A.ow.1 A.top, A.len, fun k o m ho hm => ?_, A.role, A.ow, sub⟩
  obtain ⟨h1, h2, h3, h4⟩ := A.ow.2 o (List.mem_of_getElem? ho)
  have O := A.od k o m ho hm
  obtain ⟨ts, r1, r2⟩ := O.hr
  exact ⟨h _ _ h1 O.hd, h _ _ h2 O.hl, O.len, fun i x l hx hl => h _ _ (h4 x (List.mem_of_getElem? hx)) (O.ln i x l hx hl), ts, h _ _ h3 r1, r2.same s⟩
theorem Acc.same (A : Acc K fp own H p os M) (s : Same H H') : Acc K fp own H' p os M := A.frame (fun a o _ h => s a o h) (off_mono s) A.sub
theorem Acc.get (A : Acc K fp own H p os M) {k : Nat} (h : k < M.length) : ∃ o, os[k]? = some o ∧ OdAt K H (off fp H) o M[k] := by
  have h' : k < os.length := by rw [A.len]; exact h
  exact ⟨os[k], List.getElem?_eq_getElem h', A.od k _ _ (List.getElem?_eq_getElem h') (List.getElem?_eq_getElem h)⟩
/-- an order's line changes -/
theorem Acc.setLine (A : Acc K fp own H p os M) {k j : Nat} {o : OA} {x : Addr} {m : Od} {l : Ln} (ho : os[k]? = some o) (hm : M[k]? = some m) (hx : o.lns[j]? = some x) : Acc K fp own (upd H x (.lst (LnV l))) p os (M.set k (setLine m j l)) := by
  obtain ⟨r, r0, rk⟩ := A.role
  obtain ⟨a1, a2, a3, a4⟩ := A.ow.2 o (List.mem_of_getElem? ho)
  have rx := (rk k o ho).2.2.2 j x hx
  have ox := a4 x (List.mem_of_getElem? hx)
  have eo : off fp (upd H x (.lst (LnV l))) = off fp H := off_upd (A.sub _ ox)
  have ne : ∀ {y : Addr} {q : Role}, r y = q → q ≠ .ln k j → y ≠ x := fun h1 h2 e => h2 (by rw [← h1, e, rx])
  refine ⟨by rw [upd_ne (ne r0 (by intro z; cases z))]; exact A.top, by rw [List.length_set]; exact A.len, fun k' o' m' ho' hm' => ?_, A.role, A.ow, A.sub⟩
  obtain ⟨q1, q2, q3, q4⟩ := rk k' o' ho'
  have hk' : k' < M.length := by rw [← A.len]; exact (List.getElem?_eq_some_iff.mp ho').1
  rw [eo]
  by_cases e : k = k'
  · subst e
    rw [ho] at ho'; cases ho'
    rw [List.getElem?_set_self hk'] at hm'; cases hm'
    have O := A.od k o m ho hm
    obtain ⟨ts, t1, t2⟩ := O.hr
    refine ⟨by rw [upd_ne (ne q1 (by intro z; cases z))]; exact O.hd, by rw [upd_ne (ne q2 (by intro z; cases z))]; exact O.hl, by
      rw [O.len]; exact (List.length_set ..).symm, fun i y l' hy hl' => ?_, ts, by rw [upd_ne (ne q3 (by intro z; cases z))]; exact t1, t2⟩
    have hl' : (m.lines.set j l)[i]? = some l' := hl'
    by_cases ei : j = i
    · subst ei
      rw [hx] at hy; cases hy
      have hj : j < m.lines.length := by rw [← O.len]; exact (List.getElem?_eq_some_iff.mp hx).1
      rw [List.getElem?_set_self hj] at hl'; cases hl'
      exact upd_same
    · rw [List.getElem?_set_ne ei] at hl'
      rw [upd_ne (ne (q4 i y hy) (by intro z; cases z; exact ei rfl))]
      exact O.ln i y l' hy hl'
  · rw [List.getElem?_set_ne e] at hm'
    have O := A.od k' o' m' ho' hm'
    obtain ⟨ts, t1, t2⟩ := O.hr
    exact ⟨by rw [upd_ne (ne q1 (by intro z; cases z))]; exact O.hd, by rw [upd_ne (ne q2 (by intro z; cases z))]; exact O.hl, O.len, fun i y l' hy hl' => by
      rw [upd_ne (ne (q4 i y hy) (by intro z; cases z; exact e rfl))]; exact O.ln i y l' hy hl', ts, by rw [upd_ne (ne q3 (by intro z; cases z))]; exact t1, t2⟩
/-- what is paid for an order changes -/
theorem Acc.setPaid (A : Acc K fp own H p os M) {k : Nat} {o : OA} {m : Od} {n : Int} (ho : os[k]? = some o) (hm : M[k]? = some m) : Acc K fp own (upd H o.a (.lst [.ref o.ls, .int n, .ref o.rs])) p os (M.set k { m with paid := n }) := by
  obtain ⟨r, r0, rk⟩ := A.role
  obtain ⟨a1, a2, a3, a4⟩ := A.ow.2 o (List.mem_of_getElem? ho)
  have rx := (rk k o ho).1
  have eo : off fp (upd H o.a (.lst [.ref o.ls, .int n, .ref o.rs])) = off fp H := off_upd (A.sub _ a1)
  have ne : ∀ {y : Addr} {q : Role}, r y = q → q ≠ .hd k → y ≠ o.a := fun h1 h2 e => h2 (by rw [← h1, e, rx])
  refine ⟨by rw [upd_ne (ne r0 (by intro z; cases z))]; exact A.top, by rw [List.length_set]; exact A.len, fun k' o' m' ho' hm' => ?_, A.role, A.ow, A.sub⟩
  obtain ⟨q1, q2, q3, q4⟩ := rk k' o' ho'
  have hk' : k' < M.length := by rw [← A.len]; exact (List.getElem?_eq_some_iff.mp ho').1
  rw [eo]
  by_cases e : k = k'
  · subst e
    rw [ho] at ho'; cases ho'
    rw [List.getElem?_set_self hk'] at hm'; cases hm'
    have O := A.od k o m ho hm
    obtain ⟨ts, t1, t2⟩ := O.hr
    exact ⟨upd_same, by rw [upd_ne (ne q2 (by intro z; cases z))]; exact O.hl, O.len, fun i y l' hy hl' => by
      rw [upd_ne (ne (q4 i y hy) (by intro z; cases z))]; exact O.ln i y l' hy hl', ts, by rw [upd_ne (ne q3 (by intro z; cases z))]; exact t1, t2⟩
  · rw [List.getElem?_set_ne e] at hm'
    have O := A.od k' o' m' ho' hm'
    obtain ⟨ts, t1, t2⟩ := O.hr
    exact ⟨by rw [upd_ne (ne q1 (by intro z; cases z; exact e rfl))]; exact O.hd, by rw [upd_ne (ne q2 (by intro z; cases z))]; exact O.hl, O.len, fun i y l' hy hl' => by
      rw [upd_ne (ne (q4 i y hy) (by intro z; cases z))]; exact O.ln i y l' hy hl', ts, by rw [upd_ne (ne q3 (by intro z; cases z))]; exact t1, t2⟩
/-- a row more -/
theorem Acc.addRow (A : Acc K fp own H p os M) {k : Nat} {o : OA} {m : Od} {ts : List V} {t : V} {w : Str} {c : Int} (ho : os[k]? = some o) (hm : M[k]? = some m) (ht : H o.rs = some (.lst ts)) (hd : DpAll K (off fp H) ts (m.rows.map rowD)) (h1 : Dp K (off fp H) t (rowD (w, c))) :
    Acc K fp own (upd H o.rs (.lst (ts ++ [t]))) p os (M.set k (addRow m w c)) := by
  obtain ⟨r, r0, rk⟩ := A.role
  obtain ⟨a1, a2, a3, a4⟩ := A.ow.2 o (List.mem_of_getElem? ho)
  have rx := (rk k o ho).2.2.1
  have eo : off fp (upd H o.rs (.lst (ts ++ [t]))) = off fp H := off_upd (A.sub _ a3)
  have ne : ∀ {y : Addr} {q : Role}, r y = q → q ≠ .rs k → y ≠ o.rs := fun h1 h2 e => h2 (by rw [← h1, e, rx])
  refine ⟨by rw [upd_ne (ne r0 (by intro z; cases z))]; exact A.top, by rw [List.length_set]; exact A.len, fun k' o' m' ho' hm' => ?_, A.role, A.ow, A.sub⟩
  obtain ⟨q1, q2, q3, q4⟩ := rk k' o' ho'
  have hk' : k' < M.length := by rw [← A.len]; exact (List.getElem?_eq_some_iff.mp ho').1
  rw [eo]
  by_cases e : k = k'
  · subst e
    rw [ho] at ho'; cases ho'
    rw [List.getElem?_set_self hk'] at hm'; cases hm'
    have O := A.od k o m ho hm
    refine ⟨by rw [upd_ne (ne q1 (by intro z; cases z))]; exact O.hd, by rw [upd_ne (ne q2 (by intro z; cases z))]; exact O.hl, O.len, fun i y l' hy hl' => by
      rw [upd_ne (ne (q4 i y hy) (by intro z; cases z))]; exact O.ln i y l' hy hl', ts ++ [t], upd_same, ?_⟩
    show DpAll K (off fp H) (ts ++ [t]) ((m.rows ++ [(w, c)]).map rowD)
    rw [List.map_append]
    exact hd.append (.cons h1 .nil)
  · rw [List.getElem?_set_ne e] at hm'
    have O := A.od k' o' m' ho' hm'
    obtain ⟨us, t1, t2⟩ := O.hr
    exact ⟨by rw [upd_ne (ne q1 (by intro z; cases z))]; exact O.hd, by rw [upd_ne (ne q2 (by intro z; cases z))]; exact O.hl, O.len, fun i y l' hy hl' => by
      rw [upd_ne (ne (q4 i y hy) (by intro z; cases z))]; exact O.ln i y l' hy hl', us, by rw [upd_ne (ne q3 (by intro z; cases z; exact e rfl))]; exact t1, t2⟩
/-- an order more, its parts new -/
theorem Acc.addOd (A : Acc K fp own H p os M) {o : OA} {m : Od} (O : OdAt K H (off fp H) o m) (hsub : ∀ x ∈ o.a :: o.ls :: o.rs :: o.lns, ¬ own x ∧ fp x) (hnd : (o.a :: o.ls :: o.rs :: o.lns).Nodup) :
    Acc K fp (fun x => own x ∨ x ∈ o.a :: o.ls :: o.rs :: o.lns) (upd H p (.lst ((os.map fun o => V.ref o.a) ++ [.ref o.a]))) p (os ++ [o]) (M ++ [m]) := by
  classical
  obtain ⟨r, r0, rk⟩ := A.role
  have eo : off fp (upd H p (.lst ((os.map fun o => V.ref o.a) ++ [.ref o.a]))) = off fp H := off_upd (A.sub _ A.ow.1)
  have np : ∀ x, x ∈ o.a :: o.ls :: o.rs :: o.lns → x ≠ p := fun x hx e => (hsub x hx).1 (by rw [e]; exact A.ow.1)
  have nq : ∀ (k : Nat) o', os[k]? = some o' → o'.a ≠ p ∧ o'.ls ≠ p ∧ o'.rs ≠ p ∧ ∀ x ∈ o'.lns, x ≠ p := fun k o' h => by
    obtain ⟨q1, q2, q3, q4⟩ := rk k o' h
    refine ⟨fun e => ?_, fun e => ?_, fun e => ?_, fun x hx e => ?_⟩
    · rw [e, r0] at q1; cases q1
    · rw [e, r0] at q2; cases q2
    · rw [e, r0] at q3; cases q3
    · obtain ⟨j, hj⟩ := List.getElem?_of_mem hx
      have := q4 j x hj
      rw [e, r0] at this; cases this
  refine ⟨by rw [upd_same, List.map_append]; rfl, by rw [List.length_append, List.length_append, A.len]; rfl, fun k o' m' ho' hm' => ?_, ?_, ⟨.inl A.ow.1, fun o' ho' => ?_⟩, fun a ha => ?_⟩
  · rw [eo]
    rcases Nat.lt_or_ge k os.length with hk | hk
    · rw [List.getElem?_append_left hk] at ho'
      rw [List.getElem?_append_left (by rw [← A.len]; exact hk)] at hm'
      have O' := A.od k o' m' ho' hm'
      obtain ⟨n1, n2, n3, n4⟩ := nq k o' ho'
      obtain ⟨us, t1, t2⟩ := O'.hr
      exact ⟨by rw [upd_ne n1]; exact O'.hd, by rw [upd_ne n2]; exact O'.hl, O'.len, fun i y l' hy hl' => by rw [upd_ne (n4 y (List.mem_of_getElem? hy))]; exact O'.ln i y l' hy hl', us, by rw [upd_ne n3]; exact t1, t2⟩
    · rw [List.getElem?_append_right hk] at ho'
      rw [List.getElem?_append_right (by rw [← A.len]; exact hk)] at hm'
      have hk0 : k - os.length = 0 := by
        have := (List.getElem?_eq_some_iff.mp ho').1
        simp only [List.length_cons, List.length_nil] at this
        omega
      have hk1 : k - M.length = 0 := by rw [← A.len]; exact hk0
      rw [hk0] at ho'
      rw [hk1] at hm'
      cases ho'
      cases hm'
      obtain ⟨us, t1, t2⟩ := O.hr
      exact ⟨by rw [upd_ne (np _ (by simp))]; exact O.hd, by rw [upd_ne (np _ (by simp))]; exact O.hl, O.len, fun i y l' hy hl' => by
        rw [upd_ne (np _ (by simp [List.mem_of_getElem? hy]))]; exact O.ln i y l' hy hl', us, by rw [upd_ne (np _ (by simp))]; exact t1, t2⟩
  · simp only [List.nodup_cons, List.mem_cons, not_or] at hnd
    obtain ⟨⟨d1, d2, d3⟩, ⟨d4, d5⟩, d6, d7⟩ := hnd
    refine ⟨fun x => if x = o.a then .hd os.length else if x = o.ls then .ls os.length else if x = o.rs then .rs os.length else if x ∈ o.lns then .ln os.length (o.lns.idxOf x) else r x, ?_, fun k o' ho' => ?_⟩
    · have e1 : ¬ p = o.a := fun e => np o.a (by simp) e.symm
      have e2 : ¬ p = o.ls := fun e => np o.ls (by simp) e.symm
      have e3 : ¬ p = o.rs := fun e => np o.rs (by simp) e.symm
      have e4 : ¬ p ∈ o.lns := fun e => np p (by simp [e]) rfl
      dsimp only
      rw [if_neg e1, if_neg e2, if_neg e3, if_neg e4]
      exact r0
    · rcases Nat.lt_or_ge k os.length with hk | hk
      · rw [List.getElem?_append_left hk] at ho'
        obtain ⟨q1, q2, q3, q4⟩ := rk k o' ho'
        obtain ⟨w1, w2, w3, w4⟩ := A.ow.2 o' (List.mem_of_getElem? ho')
        have no : ∀ x, own x → x ≠ o.a ∧ x ≠ o.ls ∧ x ≠ o.rs ∧ x ∉ o.lns := fun x hx => ⟨fun e => (hsub o.a (by simp)).1 (e ▸ hx), fun e => (hsub o.ls (by simp)).1 (e ▸ hx), fun e => (hsub o.rs (by simp)).1 (e ▸ hx), fun e => (hsub x (by simp [e])).1 hx⟩
        have go : ∀ x, own x → (if x = o.a then Role.hd os.length else if x = o.ls then .ls os.length else if x = o.rs then .rs os.length else if x ∈ o.lns then .ln os.length (o.lns.idxOf x) else r x) = r x := fun x hx => by
          obtain ⟨n1, n2, n3, n4⟩ := no x hx
          rw [if_neg n1, if_neg n2, if_neg n3, if_neg n4]
        exact ⟨(go _ w1).trans q1, (go _ w2).trans q2, (go _ w3).trans q3, fun j x hx => (go _ (w4 x (List.mem_of_getElem? hx))).trans (q4 j x hx)⟩
      · rw [List.getElem?_append_right hk] at ho'
        have hk0 : k - os.length = 0 := by
          have := (List.getElem?_eq_some_iff.mp ho').1
          simp only [List.length_cons, List.length_nil] at this
          omega
        have hk2 : k = os.length := by omega
        rw [hk0] at ho'
        cases ho'
        subst hk2
        refine ⟨if_pos rfl, by dsimp only; rw [if_neg (Ne.symm d1), if_pos rfl], by dsimp only; rw [if_neg (Ne.symm d2), if_neg (Ne.symm d4), if_pos rfl], fun j x hx => ?_⟩
        have hm := List.mem_of_getElem? hx
        have e1 : ¬ x = o.a := fun e => d3 (e ▸ hm)
        have e2 : ¬ x = o.ls := fun e => d5 (e ▸ hm)
        have e3 : ¬ x = o.rs := fun e => d6 (e ▸ hm)
        dsimp only
        rw [if_neg e1, if_neg e2, if_neg e3, if_pos hm]
        congr 1
        obtain ⟨hj, ej⟩ := List.getElem?_eq_some_iff.mp hx
        rw [← ej]
        exact List.Nodup.idxOf_getElem d7 j hj
  · rcases List.mem_append.mp ho' with h | h
    · obtain ⟨w1, w2, w3, w4⟩ := A.ow.2 o' h
      exact ⟨.inl w1, .inl w2, .inl w3, fun x hx => .inl (w4 x hx)⟩
    · rw [List.mem_singleton] at h
      subst h
      exact ⟨.inr (by simp), .inr (by simp), .inr (by simp), fun x hx => .inr (by simp [hx])⟩
  · rcases ha with h | h
    · exact A.sub a h
    · exact (hsub a h).2
/-- the accounts as data -/
theorem OdAt.dp {F : Hp} {o : OA} {m : Od} (O : OdAt K H F o m) (s : Same F H) : Dp K H (.ref o.a) (odD m) := by
  obtain ⟨ts, r1, r2⟩ := O.hr
  refine .lst (SqL.of O.hd) (.cons (.lst (SqL.of O.hl) ?_) (.cons (.int _) (.cons (.lst (SqL.of r1) (r2.same s)) .nil)))
  have go : ∀ (xs : List Addr) (ls : List Ln), xs.length = ls.length → (∀ (i : Nat) x l, xs[i]? = some x → ls[i]? = some l → H x = some (.lst (LnV l))) → DpAll K H (xs.map V.ref) (ls.map lnD) := by
    intro xs
    induction xs with
    | nil => intro ls h _; cases ls with
      | nil => exact .nil
      | cons l r => simp at h
    | cons x r ih => intro ls h hx; cases ls with
      | nil => simp at h
      | cons l ls =>
        refine .cons (.lst (SqL.of (hx 0 x l rfl rfl)) ?_) (ih ls (by simpa using h) fun i y k h1 h2 => hx (i + 1) y k h1 h2)
        exact .cons (.str _) (.cons (.int _) (.cons (.int _) (.cons (.int _) (.cons (.int _) (.cons (.int _) (.cons (.int _) (.cons (.int _) .nil)))))))
  exact go _ _ O.len O.ln
theorem Acc.dp (A : Acc K fp own H p os M) : Dp K H (.ref p) (.list (M.map odD)) := by
  refine .lst (SqL.of A.top) ?_
  have go : ∀ (os : List OA) (M : List Od), os.length = M.length → (∀ (k : Nat) o m, os[k]? = some o → M[k]? = some m → OdAt K H (off fp H) o m) → DpAll K H (os.map fun o => V.ref o.a) (M.map odD) := by
    intro os
    induction os with
    | nil => intro M h _; cases M with
      | nil => exact .nil
      | cons m r => simp at h
    | cons o r ih => intro M h hx; cases M with
      | nil => simp at h
      | cons m M => exact .cons ((hx 0 o m rfl rfl).dp off_same) (ih M (by simpa using h) fun k o m h1 h2 => hx (k + 1) o m h1 h2)
  exact go _ _ A.len A.od
end
end Of

set_option Elab.async false
set_option linter.all false
set_option maxRecDepth 100000
set_option maxHeartbeats 4000000
/-! Texts: what is glued of single signs. -/
namespace Of
open PySem PyProof.Rows L2
theorem str_ext {x y : Str} (h : x.cps.toList = y.cps.toList) : x = y := by
  obtain ⟨a⟩ := x
  obtain ⟨b⟩ := y
  simp only at h
  rw [Array.toList_inj.mp h]
theorem cps_app (x y : Str) : (x ++ y).cps.toList = x.cps.toList ++ y.cps.toList := by
  show (x.cps ++ y.cps).toList = _
  exact Array.toList_append
theorem len_cps (x : Str) : x.length = x.cps.toList.length := by
  show x.cps.size = _
  exact Array.length_toList.symm
/-- a text of signs -/
def ofL (cs : List Nat) : Str := ⟨cs.toArray⟩
theorem ofL_cps (cs : List Nat) : (ofL cs).cps.toList = cs := rfl
theorem ofL_len (cs : List Nat) : (ofL cs).length = cs.length := by rw [len_cps]; rfl
theorem ofL_of (x : Str) : ofL x.cps.toList = x := str_ext rfl
theorem join_cons2 (sep x y : Str) (r : List Str) : (Txt.join sep (x :: y :: r)).cps.toList = x.cps.toList ++ sep.cps.toList ++ (Txt.join sep (y :: r)).cps.toList := by
  show (Builtin.Str.glued sep (x :: y :: r)).cps.toList = _ ++ (Builtin.Str.glued sep (y :: r)).cps.toList
  rw [StrLaws.glued_eq_join, StrLaws.glued_eq_join]
  show (x ++ sep ++ Str.join sep (y :: r)).cps.toList = _
  rw [cps_app, cps_app]
theorem join_one (sep x : Str) : Txt.join sep [x] = x := by
  show Builtin.Str.glued sep [x] = x
  rw [StrLaws.glued_eq_join]
  rfl
theorem join_nil (sep : Str) : Txt.join sep [] = ⟨#[]⟩ := by
  show Builtin.Str.glued sep [] = _
  rw [StrLaws.glued_eq_join]
  rfl
theorem join_signs {sep : Str} (hs : sep.cps.toList = []) : ∀ cs : List Nat, Txt.join sep (cs.map fun c => (⟨#[c]⟩ : Str)) = ofL cs
  | [] => join_nil sep
  | [c] => join_one sep _
  | c :: d :: r => str_ext (by
    have ih := join_signs hs (d :: r)
    rw [List.map_cons, List.map_cons, join_cons2, hs, ← List.map_cons (f := fun c => (⟨#[c]⟩ : Str)), ih]
    rfl)
theorem empty_cps : (("" : Str)).cps.toList = [] := by decide +kernel
theorem alpha_at : ∀ k : Nat, k < 26 → (("abcdefghijklmnopqrstuvwxyz" : Str)).cps.toList[k]? = some (97 + k) := by decide +kernel
theorem alpha_len : (("abcdefghijklmnopqrstuvwxyz" : Str)).length ≤ sizeLine := Nat.le_trans (by decide +kernel : _ ≤ 100) (by decide)
theorem alpha_mod (i : Int) : atI (("abcdefghijklmnopqrstuvwxyz" : Str)).cps.toList (i % 26) = some (97 + (i % 26).toNat) := by
  have h0 := Int.emod_nonneg i (show (26 : Int) ≠ 0 by decide)
  have h1 := Int.emod_lt_of_pos i (show (0 : Int) < 26 by decide)
  have h2 := alpha_at (i % 26).toNat (by omega)
  exact (congrArg (atI _) (Int.toNat_of_nonneg h0).symm).trans (atI_nat h2)
/-- a text of letters -/
structure IsItem (z : Str) : Prop where
  i0 : 1 ≤ z.length
  i1 : z.length ≤ 12
  ia : ∀ c ∈ z.cps.toList, 97 ≤ c ∧ c ≤ 122
theorem isItem_of {cs : List Nat} (h0 : 1 ≤ cs.length) (h1 : cs.length ≤ 12) (ha : ∀ c ∈ cs, 97 ≤ c ∧ c ≤ 122) : IsItem (ofL cs) :=
  ⟨by rw [ofL_len]; exact h0, by rw [ofL_len]; exact h1, ha⟩
end Of

set_option Elab.async false
set_option linter.all false
set_option maxRecDepth 100000
set_option maxHeartbeats 4000000
/-! A book of the program, told by its promises alone. -/
namespace Of
open PySem PySem.Spec PyProof.Rows L2
/-! ### a method called -/
abbrev bookMs : List Str := ["do", "undo", "orders", "told", "paid", "owed", "rows", "settled", "net"]
/-- an instance of the class at C, none of its attributes a method's name -/
def IsB (C : Addr) (H : Hp) (x : V) : Prop := ∃ a dx fs, x = .ref a ∧ H a = some (.ins C dx fs) ∧ ∀ m ∈ bookMs, fs.lookup m = none
/-- a method of the class at C, with its promise; what is raised is told by L2.CX -/
structure BCal (P : Program) (w : World) (K : PySem.W.Frag) (mg : Str → Option Value) (base : Heap) (k : Nat) (C : Addr) (m : Str) (ps : List Str) (sp : Sp) : Prop where
  cls : Cls K C
  ex : ∃ f fd, Meth K C m f ∧ FnOk P w K mg base (L2.CX P w) k f fd ps sp ∧ Binds K fd ps []
  mem : m ∈ bookMs
def tBk (C : Addr) (sp : Sp) (E : XK) (ta : TE) (t : TA) : TE := fun σ H Q => ta σ H fun x H1 => IsB C H1 x ∧ t σ H1 fun vs H2 => sp (x :: vs) H2 Q E
def tBkS (C : Addr) (sp : Sp) (E : L2.St → XK) (ta : TE) (t : TA) : TE := fun σ H Q => ta σ H fun x H1 => IsB C H1 x ∧ t σ H1 fun vs H2 => sp (x :: vs) H2 Q (E σ)
section
variable {X : Cx} {k : Nat} {C : Addr} {ps : List Str} {sp : Sp} {E : XK} {ES : L2.St → XK} {m : Str} {p pos apos : Pos} {e o : Expr} {es : List Expr} {ta : TE} {t : TA}
theorem pe_bk {pl : Sem Bool} (B : BCal X.prog X.w X.K X.mg X.base k C m ps sp) (he : PE X o ta) (hr : Room k X.A) (ha : PA X (e :: es) t) (hx : Passes (L2.CX X.prog X.w) X E := by exact passL)
    (hst : starEach (e :: es) X.env = (false, eval e X.env) :: starEach es X.env := by rfl) (hpl : (backTo pos (starEach es X.env)).any (·.1) = false := by rfl)
    (ht : eval (.Call (.Attribute o m apos) (e :: es) [] pos) X.env = (do
      let ov ← eval o X.env
      standAt apos.atName
      let (f, first) ← holding [ov] (getMethod ov m pl)
      callWith pos f first (backTo pos (starEach (e :: es) X.env)) (backToKw pos (keywordEach [] X.env))) := by rfl) :
    PE X (.Call (.Attribute o m apos) (e :: es) [] pos) (tBk C sp E ta t) := by
  obtain ⟨f, fd, hm, F, hb⟩ := B.ex
  refine ⟨fun pins s σ H Q I h => ?_⟩
  refine PySem.W.methodCall_KW (pl := pl) (thn (he.run pins s σ H _ I h) fun u s1 ⟨x, H1, I1, rx, ⟨a, dx, fs, ex, ea, l⟩, q⟩ => ?_) ht
  subst ex
  obtain rfl : u = Value.ref a := rx
  refine getmeth_ok I1 ea B.cls hm (l m B.mem) ?_
  refine PySem.W.callWith_K (first := [.ref a]) (h₀ := X.base) I.ok.mod.kin hm.kp (thn (ha.run pos pins s1 σ H1 _ I1 q) fun us s2 ⟨vs, H2, I2, r, q2⟩ => ⟨I2.kIn, ?_⟩) hst hpl
  exact run_fn (us := .ref a :: us) (vs := .ref a :: vs) (dvs := []) F hr hb .nil hx I2 (.cons rfl r) (by rw [List.append_nil]; exact q2)
theorem pe_bk0 {pl : Sem Bool} (B : BCal X.prog X.w X.K X.mg X.base k C m ps sp) (he : PE X o ta) (hr : Room k X.A) (hx : Passes (L2.CX X.prog X.w) X E := by exact passL)
    (ht : eval (.Call (.Attribute o m apos) [] [] pos) X.env = (do
      let ov ← eval o X.env
      standAt apos.atName
      let (f, first) ← holding [ov] (getMethod ov m pl)
      callWith pos f first (backTo pos (starEach [] X.env)) (backToKw pos (keywordEach [] X.env))) := by rfl) :
    PE X (.Call (.Attribute o m apos) [] [] pos) (tBk C sp E ta tNil) := by
  obtain ⟨f, fd, hm, F, hb⟩ := B.ex
  refine ⟨fun pins s σ H Q I h => ?_⟩
  refine PySem.W.methodCall_KW (pl := pl) (thn (he.run pins s σ H _ I h) fun u s1 ⟨x, H1, I1, rx, ⟨a, dx, fs, ex, ea, l⟩, q⟩ => ?_) ht
  subst ex
  obtain rfl : u = Value.ref a := rx
  refine getmeth_ok I1 ea B.cls hm (l m B.mem) ?_
  exact PySem.W.callWith_K0 (first := [.ref a]) I1.kIn hm.kp (run_fn (us := [.ref a]) (vs := [.ref a]) (dvs := []) F hr hb .nil hx I1 (.cons rfl .nil) q)
/-- .. within a try -/
theorem pe_bkS {pl : Sem Bool} (B : BCal X.prog X.w X.K X.mg X.base k C m ps sp) (he : PE X o ta) (hr : Room k X.A) (ha : PA X (e :: es) t) (hx : ∀ σ, PassesAt (L2.CX X.prog X.w) X σ (ES σ))
    (hst : starEach (e :: es) X.env = (false, eval e X.env) :: starEach es X.env := by rfl) (hpl : (backTo pos (starEach es X.env)).any (·.1) = false := by rfl)
    (ht : eval (.Call (.Attribute o m apos) (e :: es) [] pos) X.env = (do
      let ov ← eval o X.env
      standAt apos.atName
      let (f, first) ← holding [ov] (getMethod ov m pl)
      callWith pos f first (backTo pos (starEach (e :: es) X.env)) (backToKw pos (keywordEach [] X.env))) := by rfl) :
    PE X (.Call (.Attribute o m apos) (e :: es) [] pos) (tBkS C sp ES ta t) := by
  obtain ⟨f, fd, hm, F, hb⟩ := B.ex
  refine ⟨fun pins s σ H Q I h => ?_⟩
  refine PySem.W.methodCall_KW (pl := pl) (thn (he.run pins s σ H _ I h) fun u s1 ⟨x, H1, I1, rx, ⟨a, dx, fs, ex, ea, l⟩, q⟩ => ?_) ht
  subst ex
  obtain rfl : u = Value.ref a := rx
  refine getmeth_ok I1 ea B.cls hm (l m B.mem) ?_
  refine PySem.W.callWith_K (first := [.ref a]) (h₀ := X.base) I.ok.mod.kin hm.kp (thn (ha.run pos pins s1 σ H1 _ I1 q) fun us s2 ⟨vs, H2, I2, r, q2⟩ => ⟨I2.kIn, ?_⟩) hst hpl
  exact run_fnS (us := .ref a :: us) (vs := .ref a :: vs) F hr hb (hx σ) I2 (.cons rfl r) q2
theorem pe_bkS0 {pl : Sem Bool} (B : BCal X.prog X.w X.K X.mg X.base k C m ps sp) (he : PE X o ta) (hr : Room k X.A) (hx : ∀ σ, PassesAt (L2.CX X.prog X.w) X σ (ES σ))
    (ht : eval (.Call (.Attribute o m apos) [] [] pos) X.env = (do
      let ov ← eval o X.env
      standAt apos.atName
      let (f, first) ← holding [ov] (getMethod ov m pl)
      callWith pos f first (backTo pos (starEach [] X.env)) (backToKw pos (keywordEach [] X.env))) := by rfl) :
    PE X (.Call (.Attribute o m apos) [] [] pos) (tBkS C sp ES ta tNil) := by
  obtain ⟨f, fd, hm, F, hb⟩ := B.ex
  refine ⟨fun pins s σ H Q I h => ?_⟩
  refine PySem.W.methodCall_KW (pl := pl) (thn (he.run pins s σ H _ I h) fun u s1 ⟨x, H1, I1, rx, ⟨a, dx, fs, ex, ea, l⟩, q⟩ => ?_) ht
  subst ex
  obtain rfl : u = Value.ref a := rx
  refine getmeth_ok I1 ea B.cls hm (l m B.mem) ?_
  exact PySem.W.callWith_K0 (first := [.ref a]) I1.kIn hm.kp (run_fnS (us := [.ref a]) (vs := [.ref a]) F hr hb (hx σ) I1 (.cons rfl .nil) q)
end
/-! ### what stays -/
/-- a tuple -/
def TupO (o : HO) : Prop := ∃ xs, o = .tup xs ∨ ∃ t, o = .frz t (.tup xs)
theorem tupO_lst {zs : List V} (h : TupO (.lst zs)) : False := by
  obtain ⟨xs, h | ⟨t, h⟩⟩ := h <;> cases h
/-- all but what is owned stands, nothing goes, tuples stay what they are, and nothing becomes one -/
def Keep (own : Addr → Prop) (H H' : Hp) : Prop := ∀ a o, H a = some o → (¬ own a → H' a = some o) ∧ ∃ u, H' a = some u ∧ (TupO o ∨ TupO u → u = o)
theorem Keep.refl {own : Addr → Prop} (H : Hp) : Keep own H H := fun _ _ h => ⟨fun _ => h, _, h, fun _ => rfl⟩
theorem tupO_then {o u t : HO} (h1 : TupO o ∨ TupO u → u = o) (h2 : TupO u ∨ TupO t → t = u) : TupO o ∨ TupO t → t = o := fun h => by
  rcases h with h | h
  · have e := h1 (.inl h)
    exact (h2 (.inl (by rw [e]; exact h))).trans e
  · have e := h2 (.inr h)
    exact e.trans (h1 (.inr (by rw [← e]; exact h)))
theorem Keep.trans {own : Addr → Prop} {H H1 H2 : Hp} (a : Keep own H H1) (b : Keep own H1 H2) : Keep own H H2 := fun x o h => by
  obtain ⟨h1, u, h2, h3⟩ := a x o h
  obtain ⟨_, t, h4, h5⟩ := b x u h2
  exact ⟨fun n => (b x o (h1 n)).1 n, t, h4, tupO_then h3 h5⟩
theorem Keep.put {own : Addr → Prop} {H H' : Hp} {x : Addr} {zs : List V} (k : Keep own H H') (h : own x) (hl : ∃ ys, H' x = some (.lst ys)) : Keep own H (upd H' x (.lst zs)) := fun a u e => by
  obtain ⟨h1, t, h2, h3⟩ := k a u e
  refine ⟨fun n => ?_, ?_⟩
  · rw [upd_ne fun z => n (by rw [z]; exact h)]
    exact h1 n
  · by_cases z : a = x
    · rw [z]
      refine ⟨_, upd_same, fun e2 => ?_⟩
      obtain ⟨ys, hl⟩ := hl
      rw [z, hl] at h2
      have et := Option.some.inj h2
      rcases e2 with e2 | e2
      · have e3 := h3 (.inl e2)
        rw [← e3, ← et] at e2
        exact (tupO_lst e2).elim
      · exact (tupO_lst e2).elim
    · rw [upd_ne z]; exact ⟨_, h2, h3⟩
theorem Keep.same {own : Addr → Prop} {H H' : Hp} (s : Same H H') : Keep own H H' := fun a o h => ⟨fun _ => s a o h, _, s a o h, fun _ => rfl⟩
theorem Keep.off {own fp : Addr → Prop} {H H' : Hp} (k : Keep own H H') (h : ∀ a, own a → fp a) : Same (off fp H) (off fp H') := fun a o e => by
  obtain ⟨h1, h2⟩ := off_some e
  rw [off_out h1]
  exact (k a o h2).1 fun z => h1 (h a z)
theorem Keep.has {own fp : Addr → Prop} {H H' : Hp} (k : Keep own H H') (h : Has fp H) : Has fp H' := fun a z e => by
  cases x : H a with
  | none => exact h a z x
  | some u =>
    obtain ⟨_, t, h2, _⟩ := k a u x
    rw [e] at h2
    cases h2
/-- what is owned stands, and is no tuple -/
def Mut (fp : Addr → Prop) (H : Hp) : Prop := ∀ a, fp a → ∃ o, H a = some o ∧ ¬ TupO o
theorem Mut.has {fp : Addr → Prop} {H : Hp} (h : Mut fp H) : Has fp H := fun a z e => by
  obtain ⟨o, h1, _⟩ := h a z
  rw [e] at h1
  cases h1
theorem Keep.mut {own fp : Addr → Prop} {H H' : Hp} (k : Keep own H H') (h : Mut fp H) : Mut fp H' := fun a z => by
  obtain ⟨o, h1, h2⟩ := h a z
  obtain ⟨_, u, h3, h4⟩ := k a o h1
  exact ⟨u, h3, fun e => h2 (by rw [← h4 (.inr e)]; exact e)⟩
theorem Keep.wide {own own' : Addr → Prop} {H H' : Hp} (k : Keep own H H') (h : ∀ a, own a → own' a) : Keep own' H H' := fun a o e => ⟨fun n => (k a o e).1 fun z => n (h a z), (k a o e).2⟩
theorem Keep.tups {own : Addr → Prop} {H H' : Hp} (k : Keep own H H') {a : Addr} {o : HO} (t : TupO o) (h : H a = some o) : H' a = some o := by
  obtain ⟨_, u, h2, h3⟩ := k a _ h
  rw [h2, h3 (.inl t)]
/-- a tuple of texts and ints -/
def FlatT (d : PyData) : Prop := ∃ ps, d = .tuple ps ∧ ps.length ≤ 100 ∧ ∀ p ∈ ps, (∃ z, p = .str z ∧ PyData.strOk z = true) ∨ ∃ i, p = .int i
theorem FlatT.ok {d : PyData} (h : FlatT d) : fl 1 d = true := by
  obtain ⟨ps, rfl, _, h⟩ := h
  show ps.all (fl 0) = true
  rw [List.all_eq_true]
  intro p hp
  rcases h p hp with ⟨z, rfl, hz⟩ | ⟨i, rfl⟩
  · exact hz
  · rfl
/-- such a tuple is none of what may change -/
theorem FlatT.off {K : PySem.W.Frag} {F : Addr → Prop} {G H : Hp} {v : V} {d : PyData} (h : FlatT d) (m : Mut F H) (s : Same G H) (dv : Dp K G v d) : Dp K (off F H) v d := by
  obtain ⟨ps, rfl, hl, h⟩ := h
  clear hl
  obtain ⟨a, xs, rfl, ha, hx⟩ := dp_tuple dv
  refine .tup (xs := xs) ?_ ?_
  · rcases ha with ha | ha
    · have nf : ∀ o, TupO o → G a = some o → ¬ F a := fun o t e z => by
        obtain ⟨u, h1, h2⟩ := m a z
        rw [s a o e] at h1
        rw [← Option.some.inj h1] at h2
        exact h2 t
      rcases ha with e | ⟨t, e⟩
      · exact .inl (.inl (by rw [off_out (nf _ ⟨_, .inl rfl⟩ e)]; exact s _ _ e))
      · exact .inl (.inr ⟨t, by rw [off_out (nf _ ⟨_, .inr ⟨t, rfl⟩⟩ e)]; exact s _ _ e⟩)
    · exact .inr ha
  · clear ha dv
    induction ps generalizing xs with
    | nil => cases hx; exact .nil
    | cons p r ih =>
      cases hx with
      | cons h1 h2 =>
        refine .cons ?_ (ih (fun p hp => h p (.tail _ hp)) _ h2)
        rcases h p (.head _) with ⟨z, rfl, _⟩ | ⟨i, rfl⟩
        · rw [dp_str h1]; exact .str _
        · rw [dp_int h1]; exact .int _
theorem flat_off {K : PySem.W.Frag} {F : Addr → Prop} {G H : Hp} (m : Mut F H) (s : Same G H) : ∀ {xs : List V} {ds : List PyData}, (∀ d ∈ ds, FlatT d) → DpAll K G xs ds → DpAll K (off F H) xs ds
  | _, _, _, .nil => .nil
  | _, _, h, .cons h1 h2 => .cons ((h _ (.head _)).off m s h1) (flat_off m s (fun d hd => h d (.tail _ hd)) h2)
theorem none_back {H H' : Hp} {a : Addr} (e : Same H H') (h : H' a = none) : H a = none := by
  cases x : H a with
  | none => rfl
  | some u => rw [e a u x] at h; cases h
theorem Keep.none {own : Addr → Prop} {H H' : Hp} (k : Keep own H H') {a : Addr} (h : H' a = none) : H a = none := by
  cases x : H a with
  | none => rfl
  | some u =>
    obtain ⟨_, t, h2, _⟩ := k a u x
    rw [h] at h2
    cases h2
/-- what is owned has grown by new ones -/
structure GrowF (fp fp' : Addr → Prop) (H : Hp) : Prop where
  f : ∀ a, fp a → fp' a
  n : ∀ a, fp' a → fp a ∨ H a = none
theorem GrowF.refl {fp : Addr → Prop} {H : Hp} : GrowF fp fp H := ⟨fun _ h => h, fun _ h => .inl h⟩
theorem GrowF.trans {fp fp1 fp2 own : Addr → Prop} {H H1 : Hp} (a : GrowF fp fp1 H) (b : GrowF fp1 fp2 H1) (k : Keep own H H1) : GrowF fp fp2 H :=
  ⟨fun x h => b.f x (a.f x h), fun x h => (b.n x h).elim (a.n x) fun z => .inr (k.none z)⟩
/-! ### the book's state, and its refusals -/
structure BS where
  M : List Od
  past : List (Deed × List Od)
def BS.did (S : BS) (d : Deed) : BS := ⟨stepM S.M d, (d, S.M) :: S.past⟩
def itemOk (z : Str) : Bool := decide (1 ≤ z.length) && decide (z.length ≤ 12) && z.cps.toList.all fun c => decide (97 ≤ c) && decide (c ≤ 122)
def numsOk (t : LineT) : Bool := decide (1 ≤ t.pieces) && decide (t.pieces ≤ 1000000) && decide (0 ≤ t.cents) && decide (t.cents ≤ 1000000000) && decide (1 ≤ t.pack) && decide (t.pack ≤ 1000)
def firstBad : List LineT → Str
  | [] => ""
  | t :: ts => if itemOk t.item = false then "NoItem" else if numsOk t = false then "NoNumber" else firstBad ts
/-- the class that refuses a deed of one of the eight shapes, or the empty text -/
def refuseM (M : List Od) : Deed → Str
  | .ord ls => if ls.length = 0 ∨ 20 < ls.length then "NoLines" else if ¬ firstBad ls = "" then firstBad ls else if 40 ≤ M.length then "FullBook" else ""
  | d => refusalM M d
/-- how many parts a deed of the word has -/
def partsOf (w : Str) : Option Nat :=
  if w = "order" then some 2 else if w = "pay" ∨ w = "refund" then some 3
  else if w = "deliver" ∨ w = "back" ∨ w = "swap" ∨ w = "credit" ∨ w = "move" then some 4 else none
/-- a tuple that is no deed -/
def OddD (xs : List PyData) : Prop := xs = [] ∨ ∃ w rest, xs = .str w :: rest ∧ partsOf w ≠ some (rest.length + 1)
/-- texts and lists within what the machine's lines hold -/
def Deed.Small : Deed → Prop
  | .ord ls => ls.length ≤ 1000 ∧ ∀ t ∈ ls, t.item.length ≤ 1000 ∧ PyData.strOk t.item = true
  | _ => True
def toldD (l : Ln) : PyData := .tuple [.str l.item, .int l.pieces, .int l.sent, .int l.home, .int l.again, .int l.credited]
/-! ### the promises of a book -/
/-- how a book's state lies in the heap: fp all that it owns -/
structure BRep where
  Rep : (Addr → Prop) → Hp → Addr → BS → Prop
  C : Addr
  mt : ∀ {fp H b S}, Rep fp H b S → Mut fp H
  at_ : ∀ {fp H b S}, Rep fp H b S → fp b
  ins : ∀ {fp H b S}, Rep fp H b S → IsB C H (.ref b)
  stays : ∀ {fp H b S H'}, Rep fp H b S → (∀ a o, fp a → H a = some o → H' a = some o) → (∀ a o, TupO o → H a = some o → H' a = some o) → Rep fp H' b S
theorem BRep.has (R : BRep) {fp : Addr → Prop} {H : Hp} {b : Addr} {S : BS} (r : R.Rep fp H b S) : Has fp H := (R.mt r).has
section
variable (R : BRep) (K : PySem.W.Frag) (cl : Str → Addr)
/-- a new list of data -/
def BRep.Lst (fp : Addr → Prop) (H : Hp) (b : Addr) (S' : BS) (ds : List PyData) (Q : VK) : Prop :=
  ∀ H' fp' q xs, GrowF fp fp' H → Keep fp H H' → R.Rep fp' H' b S' → H q = none → ¬ fp' q → H' q = some (.lst xs) → DpAll K (off (And1 fp' q) H') xs ds → Q (.ref q) H'
/-- a value -/
def BRep.Val (fp : Addr → Prop) (H : Hp) (b : Addr) (S' : BS) (v : V) (Q : VK) : Prop := ∀ H' fp', GrowF fp fp' H → Keep fp H H' → R.Rep fp' H' b S' → Q v H'
/-- refused: the book is as it was -/
def BRep.Ref (fp : Addr → Prop) (H : Hp) (b : Addr) (S : BS) (c : Str) (E : XK) : Prop := ∀ H' fp', GrowF fp fp' H → Keep fp H H' → R.Rep fp' H' b S → E (.ref (cl c)) none H'
theorem BRep.Ref.imp {R : BRep} {cl : Str → Addr} {fp : Addr → Prop} {H : Hp} {b : Addr} {S : BS} {c : Str} {E E' : XK} (h : R.Ref cl fp H b S c E) (i : ∀ c d H', E c d H' → E' c d H') : R.Ref cl fp H b S c E' := fun H' fp' g k r => i _ _ _ (h H' fp' g k r)
def sp_do : Sp := fun vs H Q E => ∃ fp b S v, vs = [.ref b, v] ∧ R.Rep fp H b S ∧ S.past.length ≤ 5000 ∧
  ((∃ d : Deed, Dp K (off fp H) v (deedD d) ∧ d.Shape ∧ d.Small ∧ (refuseM S.M d = "" → R.Lst K fp H b (S.did d) ((changesM S.M d).map chD) Q) ∧ (refuseM S.M d ≠ "" → R.Ref cl fp H b S (refuseM S.M d) E)) ∨
   (∃ xs, Dp K (off fp H) v (.tuple xs) ∧ SeqAt.shaped (.tuple xs) = true ∧ xs.length ≤ 1000 ∧ OddD xs ∧ R.Ref cl fp H b S "NoDeed" E))
def sp_orders : Sp := fun vs H Q _ => ∃ fp b S, vs = [.ref b] ∧ R.Rep fp H b S ∧ R.Val fp H b S (.int S.M.length) Q
/-- of the order n, a value of it -/
def sp_valOf (g : Od → Int) : Sp := fun vs H Q E => ∃ fp b S n, vs = [.ref b, .int n] ∧ R.Rep fp H b S ∧
  (inR n S.M.length = true → R.Val fp H b S (.int (g (ordAt S.M n))) Q) ∧ (inR n S.M.length = false → R.Ref cl fp H b S "NoOrder" E)
/-- .. a list of it -/
def sp_lstOf (g : Od → List PyData) : Sp := fun vs H Q E => ∃ fp b S n, vs = [.ref b, .int n] ∧ R.Rep fp H b S ∧ S.past.length ≤ 5000 ∧
  (inR n S.M.length = true → R.Lst K fp H b S (g (ordAt S.M n)) Q) ∧ (inR n S.M.length = false → R.Ref cl fp H b S "NoOrder" E)
def sp_told : Sp := sp_lstOf R K cl fun m => m.lines.map toldD
def sp_paid : Sp := sp_valOf R cl Od.paid
def sp_owed : Sp := sp_valOf R cl Od.owed
def sp_rows : Sp := sp_lstOf R K cl fun m => m.rows.map rowD
/-- the last deed taken back: the deed, a list of its lines new -/
def sp_undo : Sp := fun vs H Q E => ∃ fp b S, vs = [.ref b] ∧ R.Rep fp H b S ∧ S.past.length ≤ 5000 ∧
  (∀ d M rest, S.past = (d, M) :: rest → ∀ H' fp' v, GrowF fp fp' H → Keep fp H H' → R.Rep fp' H' b ⟨M, rest⟩ →
    ((∀ ls, d ≠ .ord ls) → Dp K (off fp' H') v (deedD d)) → (∀ ls, d = .ord ls → ∃ t q xs, v = .ref t ∧ ¬ fp' t ∧ H' t = some (.tup [.str "order", .ref q]) ∧ H q = none ∧ ¬ fp' q ∧ H' q = some (.lst xs) ∧ DpAll K (off (And1 fp' q) H') xs (ls.map lineD)) → Q v H') ∧
  (S.past = [] → R.Ref cl fp H b S "NothingDone" E)
/-- a new book -/
def sp_new : Sp := fun vs H Q _ => ∃ b dx, vs = [.ref b] ∧ H b = some (.ins R.C dx []) ∧ H dx = some (.own b) ∧ ∀ H' fp', fp' b → (∀ a, fp' a → a = b ∨ a = dx ∨ H a = none) → Keep (fun a => a = b) H H' → R.Rep fp' H' b ⟨[], []⟩ → Q .non H'
end
/-! ### a book made -/
structure BMk (P : Program) (w : World) (K : PySem.W.Frag) (mg : Str → Option Value) (base : Heap) (k : Nat) (R : BRep) : Prop where
  ex : ∃ f fd ps, Mk K R.C f ∧ FnOk P w K mg base (L2.CX P w) k f fd ps (sp_new R) ∧ Binds K fd ps []
  g : mg "Book" = some (.ref R.C)
def tMkB (R : BRep) : TE := fun _ H Q => ∀ H' b fp, (∀ a, fp a → H a = none) → fp b → Same H H' → R.Rep fp H' b ⟨[], []⟩ → Q (.ref b) H'
theorem pe_mkB {X : Cx} {R : BRep} {k : Nat} {p pos : Pos} (M : BMk X.prog X.w X.K X.mg X.base k R) (hr : Room (k + 1) X.A) (hg : Gl X "Book" := by rfl) : PE X (.Call (.Name "Book" p) [] [] pos) (tMkB R) := by
  obtain ⟨f, fd, ps, mk, F, hb⟩ := M.ex
  refine ⟨fun pins s σ H Q I h => ?_⟩
  refine wpAny_Call_Name_kw (ld_glob I hg M.g ?_ (by decide))
  refine PySem.W.callWith_K0 I.kIn mk.kp (run_make (us := []) (vs := []) (dvs := []) (E := E0) mk F hr hb .nil passL I .nil fun x dx hx hdx ne => ?_)
  refine ⟨x, dx, rfl, upd_same, by rw [upd_ne ne]; exact upd_same, fun H' fp' hb' hn k r => ⟨rfl, h H' x fp' (fun a ha => ?_) hb' (fun a o e => ?_) r⟩⟩
  · rcases hn a ha with e | e | e
    · rw [e]; exact hx
    · rw [e]; exact hdx
    · by_cases e1 : a = x
      · rw [e1]; exact hx
      · by_cases e2 : a = dx
        · rw [e2]; exact hdx
        · rw [upd_ne e1, upd_ne e2] at e
          exact e
  · have n1 : a ≠ x := fun z => by rw [z, hx] at e; cases e
    have n2 : a ≠ dx := fun z => by rw [z, hdx] at e; cases e
    exact (k a o (by rw [upd_ne n1, upd_ne n2]; exact e)).1 n1
/-! ### the classes of the refusals -/
abbrev errNames : List Str := ["NoDeed", "NoLines", "NoItem", "NoNumber", "FullBook", "NoOrder", "SameOrder", "NoLine", "TooMuch"]
structure Errs (K : PySem.W.Frag) (mg : Str → Option Value) (cl : Str → Addr) : Prop where
  g : ∀ n ∈ errNames, mg n = some (.ref (cl n))
  x : ∀ n ∈ errNames, ∀ m ∈ errNames, PySem.W.exmOne K (.ref (cl n)) (.ref (cl m)) = some (decide (n = m))
section
variable {K : PySem.W.Frag} {mg : Str → Option Value} {cl : Str → Addr} {Wout : WX} {D : Ends} {l : List (Value × (Addr → Value → Option Addr → TS))} {ts : Addr → Value → Option Addr → TS} {d : Option Addr} {σ : L2.St} {H : Hp} {n m : Str}
theorem many_yes (E : Errs K mg cl) (hn : n ∈ errNames) (h : ∀ a, ts a (.ref (cl n)) d D σ H) : wMany K Wout D ((.ref (cl n), ts) :: l) (.ref (cl n)) d σ H :=
  ⟨true, by rw [E.x n hn n hn, decide_eq_true rfl], fun _ a _ => h a, fun z => nomatch z⟩
theorem many_no (E : Errs K mg cl) (hn : n ∈ errNames) (hm : m ∈ errNames) (ne : n ≠ m) (h : wMany K Wout D l (.ref (cl n)) d σ H) : wMany K Wout D ((.ref (cl m), ts) :: l) (.ref (cl n)) d σ H :=
  ⟨false, by rw [E.x n hn m hm, decide_eq_false ne], (fun z => nomatch z), fun _ => h⟩
end
end Of

set_option Elab.async false
set_option linter.all false
set_option maxRecDepth 100000
set_option maxHeartbeats 4000000
/-! A book, its plain account, and a list of what was told, side by side. -/
namespace Of
open PySem PyProof.Rows L2
/-- no order has more rows than n -/
def RowsLe (n : Nat) (M : List Od) : Prop := ∀ m ∈ M, m.rows.length ≤ n
theorem Keep.then {T T' : Addr → Prop} {H H1 H2 : Hp} (a : Keep T H H1) (b : Keep T' H1 H2) (h : ∀ x, T' x → T x ∨ H x = Option.none) : Keep T H H2 := fun x o e => by
  obtain ⟨h1, u, h2, h3⟩ := a x o e
  obtain ⟨_, t, h4, h5⟩ := b x u h2
  exact ⟨fun n => (b x o (h1 n)).1 fun z => (h x z).elim n (fun z => by rw [z] at e; cases e), t, h4, tupO_then h3 h5⟩
/-- what has grown, and what may have changed -/
structure Go (F fp own : Addr → Prop) (kl : Addr) (H : Hp) (F' fp' own' : Addr → Prop) (H' : Hp) : Prop where
  gF : GrowF F F' H
  gf : GrowF fp fp' H
  go : GrowF own own' H
  k : Keep (fun a => fp a ∨ own a ∨ a = kl) H H'
theorem Go.refl {F fp own : Addr → Prop} {kl : Addr} {H : Hp} : Go F fp own kl H F fp own H := ⟨.refl, .refl, .refl, .refl H⟩
theorem Go.trans {F fp own F1 fp1 own1 F2 fp2 own2 : Addr → Prop} {kl : Addr} {H H1 H2 : Hp} (a : Go F fp own kl H F1 fp1 own1 H1) (b : Go F1 fp1 own1 kl H1 F2 fp2 own2 H2) : Go F fp own kl H F2 fp2 own2 H2 :=
  ⟨a.gF.trans b.gF a.k, a.gf.trans b.gf a.k, a.go.trans b.go a.k, a.k.then b.k fun x h => by
    rcases h with h | h | h
    · exact (a.gf.n x h).imp .inl id
    · exact (a.go.n x h).imp (fun z => .inr (.inl z)) id
    · exact .inl (.inr (.inr h))⟩
theorem Go.same {F fp own : Addr → Prop} {kl : Addr} {H H' : Hp} (s : Same H H') : Go F fp own kl H F fp own H' := ⟨.refl, .refl, .refl, .same s⟩
/-- a book and its plain account -/
structure Side (R : BRep) (K : PySem.W.Frag) (F fp own : Addr → Prop) (H : Hp) (b : Addr) (S : BS) (p : Addr) (os : List OA) (M : List Od) (N : Nat) : Prop where
  rep : R.Rep fp H b S
  acc : Acc K F own H p os M
  wf : WF M
  rl : RowsLe N M
  ml : M.length ≤ N
  pl : S.past.length ≤ N
  sub : ∀ a, fp a → F a
  dis : ∀ a, fp a → ¬ own a
def dup (ds : List PyData) : List PyData := ds.flatMap fun d => [d, d]
/-- what was told, each beside a list that says the same -/
structure KeptAt (K : PySem.W.Frag) (F : Addr → Prop) (H : Hp) (kl : Addr) (ks : List V) (n : Nat) : Prop where
  kF : F kl
  kh : H kl = some (.lst ks)
  kd : ∃ ds, DpAll K (off F H) ks (dup ds) ∧ ∀ d ∈ ds, SeqAt.shaped d = true
  len : ks.length ≤ n
section
variable {R : BRep} {K : PySem.W.Frag} {F fp own F' fp' own' T : Addr → Prop} {H H' : Hp} {b p kl : Addr} {S S' : BS} {os os' : List OA} {M M' : List Od} {N N' n n' : Nat} {ks ks' : List V}
theorem off_keep (k : Keep T H H') (hT : ∀ a, T a → F a) (g : GrowF F F' H) : Same (off F H) (off F' H') := fun a o e => by
  obtain ⟨h1, h2⟩ := off_some e
  rw [off_out fun z => (g.n a z).elim h1 fun z => by rw [z] at h2; cases h2]
  exact (k a o h2).1 fun z => h1 (hT a z)
/-- .. while elsewhere something goes on -/
theorem Side.frame (s : Side R K F fp own H b S p os M N) (k : Keep T H H') (hT : ∀ a, T a → F a) (h1 : ∀ a, T a → ¬ fp a) (h2 : ∀ a, T a → ¬ own a) (g : GrowF F F' H) : Side R K F' fp own H' b S p os M N :=
  ⟨R.stays s.rep (fun a o z e => (k a o e).1 fun t => h1 a t z) fun a o t e => k.tups t e, s.acc.frame (fun a o z e => (k a o e).1 fun t => h2 a t z) (off_keep k hT g) fun a z => g.f a (s.acc.sub a z), s.wf, s.rl, s.ml, s.pl, fun a z => g.f a (s.sub a z), s.dis⟩
theorem KeptAt.frame (s : KeptAt K F H kl ks n) (k : Keep T H H') (hT : ∀ a, T a → F a) (h : ¬ T kl) (g : GrowF F F' H) : KeptAt K F' H' kl ks n := by
  obtain ⟨ds, h1, h2⟩ := s.kd
  exact ⟨g.f _ s.kF, (k _ _ s.kh).1 h, ⟨ds, h1.same (off_keep k hT g), h2⟩, s.len⟩
/-- one of them, with the list of what was told -/
structure Sit (R : BRep) (K : PySem.W.Frag) (F fp own : Addr → Prop) (H : Hp) (b : Addr) (S : BS) (p : Addr) (os : List OA) (M : List Od) (N : Nat) (kl : Addr) (ks : List V) (n : Nat) : Prop where
  s : Side R K F fp own H b S p os M N
  t : KeptAt K F H kl ks n
  mt : Mut F H
  kf : ¬ fp kl
  ko : ¬ own kl
theorem Sit.same (s : Sit R K F fp own H b S p os M N kl ks n) (e : Same H H') : Sit R K F fp own H' b S p os M N kl ks n :=
  ⟨s.s.frame (T := fun _ => False) (.same e) (fun _ z => z.elim) (fun _ z => z.elim) (fun _ z => z.elim) .refl, s.t.frame (T := fun _ => False) (.same e) (fun _ z => z.elim) id .refl, (Keep.same (own := fun _ => False) e).mut s.mt, s.kf, s.ko⟩
/-- the book was asked, or did something -/
theorem Sit.call (s : Sit R K F fp own H b S p os M N kl ks n) (g : GrowF fp fp' H) (k : Keep fp H H') (r : R.Rep fp' H' b S') (hp : S'.past.length ≤ N := by exact Side.pl (Sit.s (by assumption))) : Sit R K (fun a => F a ∨ fp' a) fp' own H' b S' p os M N kl ks n ∧ Go F fp own kl H (fun a => F a ∨ fp' a) fp' own H' := by
  have gF : GrowF F (fun a => F a ∨ fp' a) H := ⟨fun a z => .inl z, fun a z => z.elim .inl fun z => (g.n a z).imp (s.s.sub a) id⟩
  have hk : ¬ fp' kl := fun z => (g.n _ z).elim s.kf fun z => s.mt.has _ s.t.kF z
  refine ⟨⟨⟨r, s.s.acc.frame (fun a o z e => (k a o e).1 fun t => s.s.dis a t z) (off_keep k s.s.sub gF) fun a z => .inl (s.s.acc.sub a z), s.s.wf, s.s.rl, s.s.ml, hp, fun a z => .inr z, fun a z h => (g.n a z).elim (fun z => s.s.dis a z h) fun z => s.mt.has a (s.s.acc.sub a h) z⟩,
    s.t.frame k s.s.sub s.kf gF, fun a z => z.elim (k.mut s.mt a) (R.mt r a), hk, s.ko⟩, ⟨gF, g, .refl, k.wide fun a z => .inl z⟩⟩
theorem Sit.off (s : Sit R K F fp own H b S p os M N kl ks n) (g : Go F fp own kl H F' fp' own' H') : Same (off F H) (off F' H') := off_keep g.k (fun a z => by
  rcases z with z | z | z
  · exact s.s.sub a z
  · exact s.s.acc.sub a z
  · rw [z]; exact s.t.kF) g.gF
theorem dup_append {ds : List PyData} {d : PyData} : dup (ds ++ [d]) = dup ds ++ [d] ++ [d] := by
  unfold dup
  rw [List.flatMap_append, List.append_assoc]
  rfl
/-- what was told is put aside, and beside it what says the same -/
theorem Sit.tell (s : Sit R K F fp own H b S p os M N kl ks n) {x y : V} {d : PyData} (hx : Dp K (Of.off F H) x d) (hy : Dp K (Of.off F H) y d) (sh : SeqAt.shaped d = true) :
    Sit R K F fp own (upd H kl (.lst (ks ++ [x] ++ [y]))) b S p os M N kl (ks ++ [x] ++ [y]) (n + 2) ∧ Go F fp own kl H F fp own (upd H kl (.lst (ks ++ [x] ++ [y]))) := by
  have k : Keep (fun a => a = kl) H (upd H kl (.lst (ks ++ [x] ++ [y]))) := (Keep.refl H).put rfl ⟨ks, s.t.kh⟩
  have eo : Of.off F (upd H kl (.lst (ks ++ [x] ++ [y]))) = Of.off F H := off_upd s.t.kF
  obtain ⟨ds, h1, h2⟩ := s.t.kd
  refine ⟨⟨s.s.frame k (fun a z => by rw [z]; exact s.t.kF) (fun a z => by rw [z]; exact s.kf) (fun a z => by rw [z]; exact s.ko) .refl,
    ⟨s.t.kF, upd_same, ⟨ds ++ [d], by rw [eo, dup_append]; exact (h1.append (.cons hx .nil)).append (.cons hy .nil), fun e he => ?_⟩, ?_⟩, k.mut s.mt, s.kf, s.ko⟩, ⟨.refl, .refl, .refl, k.wide fun a z => .inr (.inr z)⟩⟩
  · rcases List.mem_append.mp he with z | z
    · exact h2 e z
    · rw [List.mem_singleton.mp z]; exact sh
  · rw [List.length_append, List.length_append]
    have := s.t.len
    show ks.length + 1 + 1 ≤ n + 2
    omega
theorem upd_over {H : Hp} {a q : Addr} {o1 o2 o3 : HO} (h : a ≠ q) : upd (upd (upd H a o1) q o2) a o3 = upd (upd H q o2) a o3 := by
  funext x
  by_cases e : x = a
  · rw [e, upd_same, upd_same]
  · rw [upd_ne e, upd_ne e]
    by_cases e2 : x = q
    · rw [e2, upd_same, upd_same]
    · rw [upd_ne e2, upd_ne e2, upd_ne e]
theorem RowsLe.mono' {n k : Nat} {M : List Od} (W : RowsLe n M) (h : n ≤ k) : RowsLe k M := fun m hm => Nat.le_trans (W m hm) h
theorem Sit.mono (s : Sit R K F fp own H b S p os M N kl ks n) (h : N ≤ N') (h2 : n ≤ n') : Sit R K F fp own H b S p os M N' kl ks n' :=
  ⟨⟨s.s.rep, s.s.acc, s.s.wf, s.s.rl.mono' h, Nat.le_trans s.s.ml h, Nat.le_trans s.s.pl h, s.s.sub, s.s.dis⟩, ⟨s.t.kF, s.t.kh, s.t.kd, Nat.le_trans s.t.len h2⟩, s.mt, s.kf, s.ko⟩
/-- new ones join what is owned -/
structure Grow (fp own fp' own' : Addr → Prop) (H : Hp) : Prop where
  f : ∀ a, fp a → fp' a
  o : ∀ a, own a → own' a
  nf : ∀ a, fp' a → fp a ∨ H a = none
  no : ∀ a, own' a → own a ∨ (H a = none ∧ fp' a)
/-- the account has gone on -/
theorem Sit.acct (s : Sit R K F fp own H b S p os M N kl ks n) (g : Grow F own F' own' H) (m : Mut F' H') (k : Keep own H H') (A : Acc K F' own' H' p os' M') (wf : WF M') (rl : RowsLe N M') (ml : M'.length ≤ N) :
    Sit R K F' fp own' H' b S p os' M' N kl ks n ∧ Go F fp own kl H F' fp own' H' := by
  have gF : GrowF F F' H := ⟨g.f, g.nf⟩
  have nb : ∀ a, fp a → ¬ own' a := fun a z h => (g.no a h).elim (s.s.dis a z) fun q => s.mt.has a (s.s.sub a z) q.1
  refine ⟨⟨⟨R.stays s.s.rep (fun a o z e => (k a o e).1 (s.s.dis a z)) fun a o t e => k.tups t e, A, wf, rl, ml, s.s.pl, fun a z => g.f a (s.s.sub a z), nb⟩, s.t.frame k s.s.acc.sub s.ko gF, m, s.kf, fun z => (g.no _ z).elim s.ko fun q => s.mt.has _ s.t.kF q.1⟩,
    ⟨gF, .refl, ⟨g.o, fun a z => (g.no a z).imp id (·.1)⟩, k.wide fun a z => .inr (.inl z)⟩⟩
/-- the book was asked, or did something; F' names more that is new -/
theorem Sit.call' (s : Sit R K F fp own H b S p os M N kl ks n) (g : GrowF fp fp' H) (k : Keep fp H H') (r : R.Rep fp' H' b S') (hp : S'.past.length ≤ N) (gF : GrowF F F' H) (sub : ∀ a, fp' a → F' a) (m : Mut F' H') :
    Sit R K F' fp' own H' b S' p os M N kl ks n ∧ Go F fp own kl H F' fp' own H' := by
  have hk : ¬ fp' kl := fun z => (g.n _ z).elim s.kf fun z => s.mt.has _ s.t.kF z
  exact ⟨⟨⟨r, s.s.acc.frame (fun a o z e => (k a o e).1 fun t => s.s.dis a t z) (off_keep k s.s.sub gF) fun a z => gF.f a (s.s.acc.sub a z), s.s.wf, s.s.rl, s.s.ml, hp, sub, fun a z h => (g.n a z).elim (fun z => s.s.dis a z h) fun z => s.mt.has a (s.s.acc.sub a h) z⟩,
    s.t.frame k s.s.sub s.kf gF, m, hk, s.ko⟩, ⟨gF, g, .refl, k.wide fun a z => .inl z⟩⟩
/-- fewer are named as what may change -/
theorem Sit.less (s : Sit R K F fp own H b S p os M N kl ks n) (h : ∀ a, F' a → F a) (h1 : ∀ a, fp a → F' a) (h2 : ∀ a, own a → F' a) (h3 : F' kl) : Sit R K F' fp own H b S p os M N kl ks n := by
  have so : Same (Of.off F H) (Of.off F' H) := off_less h
  obtain ⟨ds, d1, d2⟩ := s.t.kd
  exact ⟨⟨s.s.rep, s.s.acc.frame (fun _ _ _ e => e) so h2, s.s.wf, s.s.rl, s.s.ml, s.s.pl, h1, s.s.dis⟩, ⟨h3, s.t.kh, ⟨ds, d1.same so, d2⟩, s.t.len⟩, fun a z => s.mt a (h a z), s.kf, s.ko⟩
theorem Go.less (g : Go F fp own kl H F' fp' own' H') {F'' : Addr → Prop} (h : ∀ a, F'' a → F' a) (h1 : ∀ a, F a → F'' a) : Go F fp own kl H F'' fp' own' H' := ⟨⟨h1, fun a z => g.gF.n a (h a z)⟩, g.gf, g.go, g.k⟩
/-- a new list, named as what may change, changes -/
theorem Sit.put (s : Sit R K F fp own H b S p os M N kl ks n) {q : Addr} {zs : List V} (hF : F q) (h1 : ¬ fp q) (h2 : ¬ own q) (h3 : q ≠ kl) (hl : ∃ ys, H q = some (.lst ys)) : Sit R K F fp own (upd H q (.lst zs)) b S p os M N kl ks n := by
  have k : Keep (fun a => a = q) H (upd H q (.lst zs)) := (Keep.refl H).put rfl hl
  exact ⟨s.s.frame k (fun a z => by rw [z]; exact hF) (fun a z => by rw [z]; exact h1) (fun a z => by rw [z]; exact h2) .refl, s.t.frame k (fun a z => by rw [z]; exact hF) (fun z => h3 z.symm) .refl, k.mut s.mt, s.kf, s.ko⟩
theorem Go.put (g : Go F fp own kl H F' fp' own' H') {q : Addr} {zs : List V} (h : H q = none) (hl : ∃ ys, H' q = some (.lst ys)) : Go F fp own kl H F' fp' own' (upd H' q (.lst zs)) :=
  ⟨g.gF, g.gf, g.go, g.k.then ((Keep.refl H').put (own := fun a => a = q) rfl hl) fun x z => .inr (by rw [z]; exact h)⟩
/-- a list that was told, put aside with a copy -/
theorem Sit.tells (s : Sit R K F fp own H b S p os M N kl ks n) {q q2 : Addr} {xs : List V} {ds : List PyData} (hq : H q = some (.lst xs)) (nF : ¬ F q) (dx : DpAll K (Of.off F H) xs ds) (sh : SeqAt.shaped (.list ds) = true) (h2 : upd H kl (.lst (ks ++ [.ref q])) q2 = none) :
    Sit R K F fp own (upd (upd (upd H kl (.lst (ks ++ [.ref q]))) q2 (.lst xs)) kl (.lst (ks ++ [.ref q] ++ [.ref q2]))) b S p os M N kl (ks ++ [.ref q] ++ [.ref q2]) (n + 2) ∧
    Go F fp own kl H F fp own (upd (upd (upd H kl (.lst (ks ++ [.ref q]))) q2 (.lst xs)) kl (.lst (ks ++ [.ref q] ++ [.ref q2]))) := by
  have nk : kl ≠ q2 := ne_of_none upd_same h2
  have h20 : H q2 = none := by
    rw [upd_ne nk.symm] at h2
    exact h2
  have s6 : Same H _ := same_new (o := .lst xs) h20
  have sit6 := s.same s6
  have dx6 := dx.same (off_mono (fp := F) s6)
  have nF2 : ¬ F q2 := fun z => s.mt.has _ z h20
  obtain ⟨a, b⟩ := sit6.tell (x := .ref q) (y := .ref q2) (d := .list ds) (.lst (SqL.of (by rw [off_out nF]; exact s6 _ _ hq)) dx6) (.lst (SqL.of (by rw [off_out nF2]; exact upd_same)) dx6) sh
  rw [upd_over nk]
  exact ⟨a, (Go.same s6).trans b⟩
end
end Of

set_option Elab.async false
set_option linter.all false
set_option maxRecDepth 100000
set_option maxHeartbeats 4000000
/-! Deeds on the plain account: the lemmas that no law's own text is needed for. -/
namespace Of
open PySem PyProof.Rows L2
abbrev errs9 : List Str := ["NoDeed", "NoLines", "NoItem", "NoNumber", "FullBook", "NoOrder", "SameOrder", "NoLine", "TooMuch"]
section
variable {P : Program} {w : World} {K : PySem.W.Frag} {mg : Str → Option Value} {base : Heap}
/-! ### as many as go; the class that refuses -/
theorem getD_at {α : Type} {l : List α} {d : α} {n : Int} (h0 : 0 ≤ n) (h1 : n < (l.length : Int)) : l[n.toNat]? = some (l.getD n.toNat d) := by
  have h : n.toNat < l.length := by omega
  rw [List.getD_eq_getElem?_getD, List.getElem?_eq_getElem h]
  rfl
theorem Acc.at_ {fp own : Addr → Prop} {H : Hp} {p : Addr} {os : List OA} {M : List Od} (A : Acc K fp own H p os M) {n : Int} (h0 : 0 ≤ n) (h1 : n < (M.length : Int)) :
    ∃ o, os[n.toNat]? = some o ∧ atI (os.map fun o => V.ref o.a) n = some (.ref o.a) ∧ M[n.toNat]? = some (ordAt M n) ∧ OdAt K H (off fp H) o (ordAt M n) := by
  have h : n.toNat < M.length := by omega
  obtain ⟨o, ho, O⟩ := A.get h
  have e : M[n.toNat]? = some (ordAt M n) := getD_at h0 h1
  have e2 : M[n.toNat] = ordAt M n := by
    rw [List.getElem?_eq_getElem h] at e
    exact Option.some.inj e
  rw [e2] at O
  refine ⟨o, ho, ?_, e, O⟩
  refine (congrArg (atI _) (Int.toNat_of_nonneg h0).symm).trans (atI_nat ?_)
  rw [List.getElem?_map, ho]
  rfl
theorem OdAt.at_ {H F : Hp} {o : OA} {m : Od} (O : OdAt K H F o m) {n : Int} (h0 : 0 ≤ n) (h1 : n < (m.lines.length : Int)) :
    ∃ x, o.lns[n.toNat]? = some x ∧ atI (o.lns.map V.ref) n = some (.ref x) ∧ m.lines[n.toNat]? = some (lnAt m n) ∧ H x = some (.lst (LnV (lnAt m n))) := by
  have h : n.toNat < o.lns.length := by rw [O.len]; omega
  have e : m.lines[n.toNat]? = some (lnAt m n) := getD_at h0 h1
  refine ⟨o.lns[n.toNat], List.getElem?_eq_getElem h, ?_, e, O.ln _ _ _ (List.getElem?_eq_getElem h) e⟩
  refine (congrArg (atI _) (Int.toNat_of_nonneg h0).symm).trans (atI_nat ?_)
  rw [List.getElem?_map, List.getElem?_eq_getElem h]
  rfl
theorem WF.at_ {M : List Od} (W : WF M) {n : Int} (h0 : 0 ≤ n) (h1 : n < (M.length : Int)) : (ordAt M n).Ok := W.ok _ (List.mem_of_getElem? (getD_at h0 h1))
theorem Od.Ok.at_ {m : Od} (W : m.Ok) {n : Int} (h0 : 0 ≤ n) (h1 : n < (m.lines.length : Int)) : (lnAt m n).Ok := W.ln _ (List.mem_of_getElem? (getD_at h0 h1))
theorem inR_no {n : Int} {k : Nat} (h : ¬ (0 ≤ n ∧ n < (k : Int))) : inR n k = false := by
  cases e : inR n k with
  | false => rfl
  | true => exact absurd (inR_iff.mp e) h
theorem fl_map {α : Type} {n : Nat} {f : α → PyData} {l : List α} (h : ∀ x ∈ l, fl n (f x) = true) : (l.map f).all (fl n) = true := by
  rw [List.all_eq_true]
  intro d hd
  obtain ⟨x, hx, rfl⟩ := List.mem_map.mp hd
  exact h x hx
theorem fl_ln {l : Ln} (h : PyData.strOk l.item = true) : fl 1 (lnD l) = true := by
  show (_ && _) = true
  rw [Bool.and_eq_true]
  exact ⟨h, rfl⟩
theorem fl_row {r : Str × Int} (h : PyData.strOk r.1 = true) : fl 1 (rowD r) = true := by
  show (_ && _) = true
  rw [Bool.and_eq_true]
  exact ⟨h, rfl⟩
theorem fl_od {m : Od} (h : m.Ok) : fl 3 (odD m) = true := by
  show (fl 2 (.list (m.lines.map lnD)) && (fl 2 (.int m.paid) && (fl 2 (.list (m.rows.map rowD)) && true))) = true
  have h1 : fl 2 (.list (m.lines.map lnD)) = true := fl_map fun l hl => fl_ln (h.ln l hl).it
  have h2 : fl 2 (.list (m.rows.map rowD)) = true := fl_map fun r hr => fl_row (h.rw r hr)
  rw [h1, h2]
  rfl
theorem shaped_acc {M : List Od} (W : WF M) : SeqAt.shaped (.list (M.map odD)) = true := shaped_fl (n := 4) (fl_map fun m hm => fl_od (W.ok m hm))
theorem eqv_nil {ds : List PyData} : PyData.eqv (.list ds) (.list []) = ds.isEmpty := by
  cases ds <;> rfl
def W12 : List Str := ["deliver", "deliver", "deliver", "deliver", "back", "swap", "credit", "pay", "pay", "refund", "move", "order"]
def W8 (x : Str) : Prop := GoodsW x ∨ MoneyW x ∨ x = "move" ∨ x = "order"
theorem w12_at (i : Nat) (h : i < 12) : ∃ x, W12[i]? = some x ∧ W8 x := by
  have h2 : i < W12.length := h
  refine ⟨W12[i], List.getElem?_eq_getElem h2, ?_⟩
  have : ∀ x ∈ W12, W8 x := by
    intro x hx
    simp only [W12, List.mem_cons, List.not_mem_nil, or_false] at hx
    unfold W8 GoodsW MoneyW
    rcases hx with h | h | h | h | h | h | h | h | h | h | h | h <;> simp [h]
  exact this _ (List.getElem_mem h2)
/-! ### the class that refuses -/
theorem goods_ne {x : Str} (h : GoodsW x) : x ≠ "order" ∧ x ≠ "move" ∧ x ≠ "pay" ∧ x ≠ "refund" := by
  rcases h with rfl | rfl | rfl | rfl <;> exact ⟨by decide +kernel, by decide +kernel, by decide +kernel, by decide +kernel⟩
theorem money_ne {x : Str} (h : MoneyW x) : x ≠ "order" ∧ x ≠ "move" ∧ x ≠ "deliver" ∧ x ≠ "credit" := by
  rcases h with rfl | rfl <;> exact ⟨by decide +kernel, by decide +kernel, by decide +kernel, by decide +kernel⟩
theorem dec_str_no {x y : Str} (h : x ≠ y) : decide (V.str x = V.str y) = false := decide_eq_false fun e => h (V.str.inj e)
/-- what a tuple of data holds -/
theorem tup4 {H : Hp} {v : V} {a b c d : PyData} (h : Dp K H v (.tuple [a, b, c, d])) : ∃ p x y z u, v = .ref p ∧ SqT K H p [x, y, z, u] ∧ Dp K H x a ∧ Dp K H y b ∧ Dp K H z c ∧ Dp K H u d := by
  obtain ⟨p, xs, rfl, s, r⟩ := dp_tuple h
  cases r with
  | cons h1 r => cases r with
    | cons h2 r => cases r with
      | cons h3 r => cases r with
        | cons h4 r => cases r; exact ⟨p, _, _, _, _, rfl, s, h1, h2, h3, h4⟩
theorem tup3 {H : Hp} {v : V} {a b c : PyData} (h : Dp K H v (.tuple [a, b, c])) : ∃ p x y z, v = .ref p ∧ SqT K H p [x, y, z] ∧ Dp K H x a ∧ Dp K H y b ∧ Dp K H z c := by
  obtain ⟨p, xs, rfl, s, r⟩ := dp_tuple h
  cases r with
  | cons h1 r => cases r with
    | cons h2 r => cases r with
      | cons h3 r => cases r; exact ⟨p, _, _, _, rfl, s, h1, h2, h3⟩
theorem tup2 {H : Hp} {v : V} {a b : PyData} (h : Dp K H v (.tuple [a, b])) : ∃ p x y, v = .ref p ∧ SqT K H p [x, y] ∧ Dp K H x a ∧ Dp K H y b := by
  obtain ⟨p, xs, rfl, s, r⟩ := dp_tuple h
  cases r with
  | cons h1 r => cases r with
    | cons h2 r => cases r; exact ⟨p, _, _, rfl, s, h1, h2⟩
/-- the deeds' tuples -/
theorem deed_goods {H : Hp} {v : V} {x : Str} {o l n : Int} (h : Dp K H v (deedD (.goods x o l n))) : ∃ p, v = .ref p ∧ SqT K H p [.str x, .int o, .int l, .int n] := by
  obtain ⟨p, a, b, c, d, rfl, s, h1, h2, h3, h4⟩ := tup4 h
  rw [dp_str h1, dp_int h2, dp_int h3, dp_int h4] at s
  exact ⟨p, rfl, s⟩
theorem deed_move {H : Hp} {v : V} {o l n : Int} (h : Dp K H v (deedD (.move o l n))) : ∃ p, v = .ref p ∧ SqT K H p [.str "move", .int o, .int l, .int n] := by
  obtain ⟨p, a, b, c, d, rfl, s, h1, h2, h3, h4⟩ := tup4 h
  rw [dp_str h1, dp_int h2, dp_int h3, dp_int h4] at s
  exact ⟨p, rfl, s⟩
theorem deed_money {H : Hp} {v : V} {x : Str} {o n : Int} (h : Dp K H v (deedD (.money x o n))) : ∃ p, v = .ref p ∧ SqT K H p [.str x, .int o, .int n] := by
  obtain ⟨p, a, b, c, rfl, s, h1, h2, h3⟩ := tup3 h
  rw [dp_str h1, dp_int h2, dp_int h3] at s
  exact ⟨p, rfl, s⟩
theorem deed_ord {H : Hp} {v : V} {ls : List LineT} (h : Dp K H v (deedD (.ord ls))) : ∃ p x, v = .ref p ∧ SqT K H p [.str "order", x] ∧ Dp K H x (.list (ls.map lineD)) := by
  obtain ⟨p, a, b, rfl, s, h1, h2⟩ := tup2 h
  rw [dp_str h1] at s
  exact ⟨p, b, rfl, s, h2⟩
theorem refusal_goods (M : List Od) (x : Str) (o l n : Int) : refusalM M (.goods x o l n) = (if inR o M.length = false then "NoOrder" else if inR l (ordAt M o).lines.length = false then "NoLine" else if n < 1 then "NoNumber" else if mostM x o l M < n then "TooMuch" else "" : Str) := rfl
theorem refusal_money (M : List Od) (x : Str) (o n : Int) : refusalM M (.money x o n) = (if inR o M.length = false then "NoOrder" else if n < 1 then "NoNumber" else if ¬ x = "pay" ∧ mostM x o 0 M < n then "TooMuch" else "" : Str) := rfl
theorem refusal_move (M : List Od) (o l n : Int) : refusalM M (.move o l n) = (if inR o M.length = false ∨ inR l M.length = false then "NoOrder" else if o = l then "SameOrder" else if n < 1 then "NoNumber" else if mostM "move" o 0 M < n then "TooMuch" else "" : Str) := rfl
/-! ### what a deed turns -/
theorem ne_strs : ("NoOrder" : Str) ≠ "" ∧ ("NoLine" : Str) ≠ "" ∧ ("NoNumber" : Str) ≠ "" ∧ ("TooMuch" : Str) ≠ "" ∧ ("SameOrder" : Str) ≠ "" := by
  refine ⟨?_, ?_, ?_, ?_, ?_⟩ <;> decide +kernel
theorem in_of {n : Int} {k : Nat} (h : ¬ inR n k = false) : 0 ≤ n ∧ n < (k : Int) := by
  cases e : inR n k with
  | false => exact absurd e h
  | true => exact inR_iff.mp e
theorem legal_goods {M : List Od} {x : Str} {o l n : Int} (h : refusalM M (.goods x o l n) = "") : (0 ≤ o ∧ o < (M.length : Int)) ∧ (0 ≤ l ∧ l < ((ordAt M o).lines.length : Int)) ∧ 1 ≤ n ∧ n ≤ mostM x o l M := by
  obtain ⟨s1, s2, s3, s4, s5⟩ := ne_strs
  rw [refusal_goods] at h
  split at h
  · exact absurd h s1
  split at h
  · exact absurd h s2
  split at h
  · exact absurd h s3
  split at h
  · exact absurd h s4
  · exact ⟨in_of (by assumption), in_of (by assumption), by omega, by omega⟩
theorem legal_money {M : List Od} {x : Str} {o n : Int} (h : refusalM M (.money x o n) = "") : (0 ≤ o ∧ o < (M.length : Int)) ∧ 1 ≤ n ∧ (x = "pay" ∨ n ≤ mostM x o 0 M) := by
  obtain ⟨s1, s2, s3, s4, s5⟩ := ne_strs
  rw [refusal_money] at h
  split at h
  · exact absurd h s1
  split at h
  · exact absurd h s3
  split at h
  · exact absurd h s4
  · rename_i h1 h2 h3
    refine ⟨in_of h1, by omega, ?_⟩
    by_cases e : x = "pay"
    · exact .inl e
    · exact .inr (by
        rcases Int.lt_or_le (mostM x o 0 M) n with z | z
        · exact absurd ⟨e, z⟩ h3
        · exact z)
theorem legal_move {M : List Od} {o l n : Int} (h : refusalM M (.move o l n) = "") : (0 ≤ o ∧ o < (M.length : Int)) ∧ (0 ≤ l ∧ l < (M.length : Int)) ∧ o ≠ l ∧ 1 ≤ n ∧ n ≤ mostM "move" o 0 M := by
  obtain ⟨s1, s2, s3, s4, s5⟩ := ne_strs
  rw [refusal_move] at h
  split at h
  · exact absurd h s1
  split at h
  · exact absurd h s5
  split at h
  · exact absurd h s3
  split at h
  · exact absurd h s4
  · rename_i h1 h2 h3 h4
    exact ⟨in_of fun z => h1 (.inl z), in_of fun z => h1 (.inr z), h2, by omega, by omega⟩
theorem ordAt_set {M : List Od} {k o : Int} {m : Od} (hk0 : 0 ≤ k) (hk1 : k < (M.length : Int)) (ho : 0 ≤ o) : ordAt (M.set k.toNat m) o = if k = o then m else ordAt M o := by
  unfold ordAt
  rw [List.getD_eq_getElem?_getD, List.getD_eq_getElem?_getD]
  by_cases e : k = o
  · subst e
    rw [if_pos rfl, List.getElem?_set_self (by omega)]
    rfl
  · rw [if_neg e, List.getElem?_set_ne (by omega)]
theorem sign_eq {x : Str} {n : Int} : (1 - 2 * (if (!decide (V.str x = V.str "pay")) = true then (1 : Int) else 0)) * n = if x = "pay" then n else -n := by
  by_cases e : x = "pay"
  · rw [if_pos e, decide_eq_true (congrArg V.str e)]
    show (1 - 2 * 0) * n = n
    omega
  · rw [if_neg e, dec_str_no e]
    show (1 - 2 * 1) * n = -n
    omega
theorem turnL_home {w : Str} {n : Int} {it : Str} {pc ce pa se hm ag cr a2 : Int} (h1 : ¬ w = "deliver") (h2 : ¬ w = "credit") (h : a2 = ag + (if w = "swap" then n else 0)) {L : Ln} (hL : (⟨it, pc, ce, pa, se, hm + n, a2, cr⟩ : Ln) = L) :
    { L with credited := if L.worth < L.credited then L.worth else L.credited } = turnL w n ⟨it, pc, ce, pa, se, hm, ag, cr⟩ := by
  subst h
  unfold turnL
  rw [if_neg h1, if_neg h2]
  dsimp only
  rw [hL, Int.min_def]
  subst hL
  dsimp only
  congr 1
  split <;> split <;> omega
/-! ### a deed done on the plain account -/
theorem turnM_length {M : List Od} {d : Deed} : (turnM M d).length = M.length := by
  cases d <;> simp [turnM]
theorem WF.set {M : List Od} {k : Nat} {m : Od} (W : WF M) (h : m.Ok) : WF (M.set k m) := ⟨fun x hx => by
  rcases List.mem_or_eq_of_mem_set hx with z | rfl
  · exact W.ok x z
  · exact h⟩
theorem Od.Ok.setLine {m : Od} {j : Nat} {l : Ln} (h : m.Ok) (hl : l.Ok) : (setLine m j l).Ok :=
  ⟨by show 1 ≤ (m.lines.set j l).length; rw [List.length_set]; exact h.ne, by show (m.lines.set j l).length ≤ 20; rw [List.length_set]; exact h.le, fun x hx => by
    rcases List.mem_or_eq_of_mem_set hx with z | rfl
    · exact h.ln x z
    · exact hl, h.rw⟩
theorem Od.Ok.addPaid {m : Od} {n : Int} (h : m.Ok) : (addPaid m n).Ok := ⟨h.ne, h.le, h.ln, h.rw⟩
theorem Od.Ok.addRow {m : Od} {w : Str} {n : Int} (h : m.Ok) (hw : PyData.strOk w = true) : (addRow m w n).Ok := ⟨h.ne, h.le, h.ln, fun r hr => by
  rcases List.mem_append.mp hr with z | z
  · exact h.rw r z
  · rw [List.mem_singleton] at z
    rw [z]
    exact hw⟩
theorem Ln.Ok.turn {l : Ln} {w : Str} {n : Int} (h : l.Ok) : (turnL w n l).Ok := by
  unfold turnL
  split
  · exact ⟨h.c0, h.c1, h.p0, h.p1, h.it⟩
  split
  · exact ⟨h.c0, h.c1, h.p0, h.p1, h.it⟩
  · exact ⟨h.c0, h.c1, h.p0, h.p1, h.it⟩
theorem WF.turn {M : List Od} {d : Deed} (W : WF M) (h : refusalM M d = "") : WF (turnM M d) := by
  cases d with
  | ord ls => exact W
  | goods x o l n =>
    obtain ⟨⟨h0, h1⟩, ⟨g0, g1⟩, _⟩ := legal_goods h
    exact W.set ((W.at_ h0 h1).setLine ((W.at_ h0 h1).at_ g0 g1).turn)
  | money x o n =>
    obtain ⟨⟨h0, h1⟩, _⟩ := legal_money h
    exact W.set (W.at_ h0 h1).addPaid
  | move o l n =>
    obtain ⟨⟨h0, h1⟩, ⟨g0, g1⟩, _⟩ := legal_move h
    exact (W.set (W.at_ h0 h1).addPaid).set (W.at_ g0 g1).addPaid
theorem rowsM_length {w : Str} : ∀ {cs : List (Int × Int)} {M : List Od}, (rowsM M w cs).length = M.length
  | [], _ => rfl
  | c :: cs, M => by
    show (rowsM (M.set c.1.toNat (addRow (ordAt M c.1) w c.2)) w cs).length = _
    rw [rowsM_length, List.length_set]
theorem WF.rows {w : Str} (hw : PyData.strOk w = true) : ∀ {cs : List (Int × Int)} {M : List Od}, WF M → (∀ c ∈ cs, 0 ≤ c.1 ∧ c.1 < (M.length : Int)) → WF (rowsM M w cs)
  | [], _, W, _ => W
  | c :: cs, M, W, h => by
    show WF (rowsM (M.set c.1.toNat (addRow (ordAt M c.1) w c.2)) w cs)
    obtain ⟨h0, h1⟩ := h c (.head _)
    refine WF.rows hw (W.set ((W.at_ h0 h1).addRow hw)) fun c' hc => ?_
    rw [List.length_set]
    exact h c' (.tail _ hc)
theorem rowsM_snoc {M : List Od} {w : Str} {cs : List (Int × Int)} {c : Int × Int} : rowsM M w (cs ++ [c]) = (rowsM M w cs).set c.1.toNat (addRow (ordAt (rowsM M w cs) c.1) w c.2) := by
  unfold rowsM
  rw [List.foldl_append]
  rfl
theorem places_in {M : List Od} {d : Deed} (h : refusalM M d = "") : ∀ a ∈ placesM d, 0 ≤ a ∧ a < (M.length : Int) := by
  intro a ha
  cases d with
  | ord ls => cases ha
  | goods x o l n => rw [List.mem_singleton.mp ha]; exact (legal_goods h).1
  | money x o n => rw [List.mem_singleton.mp ha]; exact (legal_money h).1
  | move o l n =>
    rcases List.mem_cons.mp ha with e | e
    · rw [e]; exact (legal_move h).1
    · rw [List.mem_singleton.mp e]; exact (legal_move h).2.1
theorem word_ok {d : Deed} (h : d.Shape) : PyData.strOk d.word = true := by
  cases d with
  | ord ls => show PyData.strOk "order" = true; decide +kernel
  | goods x o l n => show PyData.strOk x = true; rcases h with rfl | rfl | rfl | rfl <;> decide +kernel
  | money x o n => show PyData.strOk x = true; rcases h with rfl | rfl <;> decide +kernel
  | move o l n => show PyData.strOk "move" = true; decide +kernel
theorem WF.step {M : List Od} {d : Deed} (W : WF M) (sh : d.Shape) (lo : d.LinesOk) (h : refusalM M d = "") : WF (stepM M d) := by
  have go : (∀ ls, d ≠ .ord ls) → WF (rowsM (turnM M d) d.word (changesM M d)) := fun _ => by
    refine WF.rows (word_ok sh) (W.turn h) fun c hc => ?_
    obtain ⟨a, ha, rfl⟩ := List.mem_map.mp hc
    rw [turnM_length]
    exact places_in h a ha
  cases d with
  | ord ls =>
    obtain ⟨l0, l1, lk⟩ := lo
    refine ⟨fun m hm => ?_⟩
    rcases List.mem_append.mp hm with z | z
    · exact W.ok m z
    · rw [List.mem_singleton] at z
      subst z
      refine ⟨by simpa using l0, by simpa using l1, fun l hl => ?_, fun r hr => by cases hr⟩
      obtain ⟨t, ht, rfl⟩ := List.mem_map.mp hl
      exact (lk t ht).ln
  | goods x o l n => exact go fun _ z => nomatch z
  | money x o n => exact go fun _ z => nomatch z
  | move o l n => exact go fun _ z => nomatch z
theorem deed_gen {F : Hp} {v : V} {d : Deed} (h : Dp K F v (deedD d)) (sh : d.Shape) (no : ∀ ls, d ≠ .ord ls) : ∃ (b : Addr) (o : Int) (rest : List V), v = .ref b ∧ SqT K F b (.str d.word :: .int o :: rest) ∧ d.word ≠ "order" ∧
    ((d.word = "move" ∧ ∃ o2 r2, rest = .int o2 :: r2 ∧ placesM d = [o, o2]) ∨ (d.word ≠ "move" ∧ placesM d = [o])) := by
  cases d with
  | ord ls => exact absurd rfl (no ls)
  | goods x o l n =>
    obtain ⟨b, rfl, hb⟩ := deed_goods h
    obtain ⟨n1, n2, _⟩ := goods_ne sh
    exact ⟨b, o, _, rfl, hb, n1, .inr ⟨n2, rfl⟩⟩
  | money x o n =>
    obtain ⟨b, rfl, hb⟩ := deed_money h
    obtain ⟨n1, n2, _⟩ := money_ne sh
    exact ⟨b, o, _, rfl, hb, n1, .inr ⟨n2, rfl⟩⟩
  | move o l n =>
    obtain ⟨b, rfl, hb⟩ := deed_move h
    exact ⟨b, o, _, rfl, hb, by show ("move" : Str) ≠ "order"; decide +kernel, .inl ⟨rfl, l, _, rfl, rfl⟩⟩
theorem d_cases (d : Deed) : (∀ ls, d ≠ .ord ls) ∨ ∃ ls, d = .ord ls := by
  cases d with
  | ord ls => exact .inr ⟨ls, rfl⟩
  | goods x o l n => exact .inl fun _ z => nomatch z
  | money x o n => exact .inl fun _ z => nomatch z
  | move o l n => exact .inl fun _ z => nomatch z
theorem stepM_no {M : List Od} {d : Deed} (no : ∀ ls, d ≠ .ord ls) : stepM M d = rowsM (turnM M d) d.word (changesM M d) := by
  cases d with
  | ord ls => exact absurd rfl (no ls)
  | goods x o l n => rfl
  | money x o n => rfl
  | move o l n => rfl
theorem RowsLe.set {n : Nat} {M : List Od} {k : Nat} {m : Od} (W : RowsLe n M) (h : m.rows.length ≤ n) : RowsLe n (M.set k m) := fun x hx => by
  rcases List.mem_or_eq_of_mem_set hx with z | rfl
  · exact W x z
  · exact h
theorem RowsLe.ord {n : Nat} {M : List Od} (W : RowsLe n M) (k : Int) : (ordAt M k).rows.length ≤ n := by
  unfold ordAt
  rw [List.getD_eq_getElem?_getD]
  cases e : M[k.toNat]? with
  | none => exact Nat.zero_le _
  | some m => exact W m (List.mem_of_getElem? e)
theorem RowsLe.mono {n k : Nat} {M : List Od} (W : RowsLe n M) (h : n ≤ k) : RowsLe k M := fun m hm => Nat.le_trans (W m hm) h
theorem RowsLe.turn {n : Nat} {M : List Od} {d : Deed} (W : RowsLe n M) : RowsLe n (turnM M d) := by
  cases d with
  | ord ls => exact W
  | goods x o l k => exact W.set (W.ord o)
  | money x o k => exact W.set (W.ord o)
  | move o l k => exact RowsLe.set (RowsLe.set (m := addPaid (ordAt M o) (-k)) W (W.ord o)) (m := addPaid (ordAt M l) k) (W.ord l)
theorem RowsLe.rows {w : Str} : ∀ {cs : List (Int × Int)} {n : Nat} {M : List Od}, RowsLe n M → RowsLe (n + cs.length) (rowsM M w cs)
  | [], _, _, W => W
  | c :: cs, n, M, W => by
    show RowsLe (n + (cs.length + 1)) (rowsM (M.set c.1.toNat (addRow (ordAt M c.1) w c.2)) w cs)
    have h : (addRow (ordAt M c.1) w c.2).rows.length ≤ n + 1 := by
      show ((ordAt M c.1).rows ++ [(w, c.2)]).length ≤ n + 1
      rw [List.length_append]
      exact Nat.succ_le_succ (W.ord c.1)
    have := RowsLe.rows (cs := cs) (w := w) ((W.mono (Nat.le_succ n)).set (k := c.1.toNat) h)
    rw [show n + (cs.length + 1) = n + 1 + cs.length by omega]
    exact this
theorem places_le {d : Deed} : (placesM d).length ≤ 2 := by
  cases d <;> simp [placesM]
theorem RowsLe.step {n : Nat} {M : List Od} {d : Deed} (W : RowsLe n M) : RowsLe (n + 2) (stepM M d) := by
  rcases d_cases d with no | ⟨ls, rfl⟩
  · rw [stepM_no no]
    refine (W.turn.rows).mono ?_
    unfold changesM
    rw [List.length_map]
    have := places_le (d := d)
    omega
  · intro m hm
    rcases List.mem_append.mp hm with z | z
    · exact Nat.le_trans (W m z) (by omega)
    · rw [List.mem_singleton] at z
      subst z
      exact Nat.zero_le _
theorem step_length {M : List Od} {d : Deed} : (stepM M d).length ≤ M.length + 1 := by
  rcases d_cases d with no | ⟨ls, rfl⟩
  · rw [stepM_no no, rowsM_length, turnM_length]
    omega
  · show (M ++ [_]).length ≤ _
    rw [List.length_append]
    exact Nat.le_refl _
/-! ### a deed done on both -/
theorem FlatT.ch (c : Int × Int) : FlatT (chD c) := ⟨_, rfl, by show 2 ≤ 100; decide, fun p hp => by
  simp only [List.mem_cons, List.not_mem_nil, or_false] at hp
  rcases hp with rfl | rfl
  · exact .inr ⟨_, rfl⟩
  · exact .inr ⟨_, rfl⟩⟩
theorem ch_flat {cs : List (Int × Int)} : ∀ d ∈ cs.map chD, FlatT d := fun d hd => by
  obtain ⟨c, _, rfl⟩ := List.mem_map.mp hd
  exact .ch c
theorem list_fl {ds : List PyData} (h : ∀ d ∈ ds, FlatT d) : SeqAt.shaped (.list ds) = true := shaped_fl (n := 2) (by
  show ds.all (fl 1) = true
  rw [List.all_eq_true]
  exact fun d hd => (h d hd).ok)
theorem deed_fl {d : Deed} (sh : d.Shape) (lo : d.LinesOk) : SeqAt.shaped (deedD d) = true := by
  have ws := word_ok sh
  cases d with
  | ord ls =>
    obtain ⟨_, _, h⟩ := lo
    refine shaped_fl (n := 3) ?_
    show ([.str "order", .list (ls.map lineD)] : List PyData).all (fl 2) = true
    rw [List.all_eq_true]
    intro x hx
    simp only [List.mem_cons, List.not_mem_nil, or_false] at hx
    rcases hx with rfl | rfl
    · exact ws
    · show (ls.map lineD).all (fl 1) = true
      rw [List.all_eq_true]
      intro y hy
      obtain ⟨t, ht, rfl⟩ := List.mem_map.mp hy
      show ([.str t.item, .int t.pieces, .int t.cents, .int t.pack] : List PyData).all (fl 0) = true
      rw [List.all_eq_true]
      intro z hz
      simp only [List.mem_cons, List.not_mem_nil, or_false] at hz
      rcases hz with rfl | rfl | rfl | rfl
      · exact (h t ht).str
      all_goals rfl
  | goods x o l n =>
    refine shaped_fl (n := 1) ?_
    show ([.str x, .int o, .int l, .int n] : List PyData).all (fl 0) = true
    rw [List.all_eq_true]
    intro z hz
    simp only [List.mem_cons, List.not_mem_nil, or_false] at hz
    rcases hz with rfl | rfl | rfl | rfl
    · exact ws
    all_goals rfl
  | money x o n =>
    refine shaped_fl (n := 1) ?_
    show ([.str x, .int o, .int n] : List PyData).all (fl 0) = true
    rw [List.all_eq_true]
    intro z hz
    simp only [List.mem_cons, List.not_mem_nil, or_false] at hz
    rcases hz with rfl | rfl | rfl
    · exact ws
    all_goals rfl
  | move o l n =>
    refine shaped_fl (n := 1) ?_
    show ([.str "move", .int o, .int l, .int n] : List PyData).all (fl 0) = true
    rw [List.all_eq_true]
    intro z hz
    simp only [List.mem_cons, List.not_mem_nil, or_false] at hz
    rcases hz with rfl | rfl | rfl | rfl
    · exact ws
    all_goals rfl
theorem LineT.Ok.item {t : LineT} (h : t.Ok) : itemOk t.item = true := by
  unfold itemOk
  rw [Bool.and_eq_true, Bool.and_eq_true, decide_eq_true_eq, decide_eq_true_eq, List.all_eq_true]
  refine ⟨⟨h.i0, h.i1⟩, fun c hc => ?_⟩
  rw [Bool.and_eq_true, decide_eq_true_eq, decide_eq_true_eq]
  exact h.ia c hc
theorem LineT.Ok.nums {t : LineT} (h : t.Ok) : numsOk t = true := by
  unfold numsOk
  simp only [Bool.and_eq_true, decide_eq_true_eq]
  exact ⟨⟨⟨⟨⟨h.n0, h.n1⟩, h.c0⟩, h.c1⟩, h.p0⟩, h.p1⟩
theorem firstBad_ok : ∀ {ls : List LineT}, (∀ t ∈ ls, t.Ok) → firstBad ls = ""
  | [], _ => rfl
  | t :: ts, h => by
    unfold firstBad
    rw [(h t (.head _)).item, (h t (.head _)).nums, if_neg (by decide), if_neg (by decide)]
    exact firstBad_ok fun t ht => h t (.tail _ ht)
theorem refuse_ok {M : List Od} {d : Deed} (lo : d.LinesOk) (h : ∀ ls, d = .ord ls → M.length < 40) : refuseM M d = refusalM M d := by
  cases d with
  | ord ls =>
    obtain ⟨h0, h1, h2⟩ := lo
    have h3 := h ls rfl
    show (if ls.length = 0 ∨ 20 < ls.length then ("NoLines" : Str) else if ¬ firstBad ls = "" then firstBad ls else if 40 ≤ M.length then "FullBook" else "") = ""
    rw [if_neg (by omega), firstBad_ok h2, if_neg (by simp), if_neg (by omega)]
  | goods x o l n => rfl
  | money x o n => rfl
  | move o l n => rfl
theorem small_ok {d : Deed} (lo : d.LinesOk) : d.Small := by
  cases d with
  | ord ls =>
    obtain ⟨h0, h1, h2⟩ := lo
    exact ⟨by omega, fun t ht => ⟨by have := (h2 t ht).i1; omega, (h2 t ht).str⟩⟩
  | goods x o l n => trivial
  | money x o n => trivial
  | move o l n => trivial
theorem mem_if {c : Prop} [Decidable c] {s t : Str} {l : List Str} (hs : s ∈ l) (ht : t ≠ "" → t ∈ l) (h : (if c then s else t) ≠ "") : (if c then s else t) ∈ l := by
  by_cases hc : c
  · rw [if_pos hc]; exact hs
  · rw [if_neg hc] at h ⊢; exact ht h
theorem refusal_in {M : List Od} {d : Deed} (h : refusalM M d ≠ "") : refusalM M d ∈ errs9 := by
  cases d with
  | ord ls => exact absurd rfl h
  | goods x o l n =>
    rw [refusal_goods] at h ⊢
    exact mem_if (by decide) (mem_if (by decide) (mem_if (by decide) (mem_if (by decide) fun z => absurd rfl z))) h
  | money x o n =>
    rw [refusal_money] at h ⊢
    exact mem_if (by decide) (mem_if (by decide) (mem_if (by decide) fun z => absurd rfl z)) h
  | move o l n =>
    rw [refusal_move] at h ⊢
    exact mem_if (by decide) (mem_if (by decide) (mem_if (by decide) (mem_if (by decide) fun z => absurd rfl z))) h
/-! ### what was told stays; the orders touched -/
/-! ### a book begun -/
structure Legal (S : BS) (d : Deed) : Prop where
  sh : d.Shape
  lo : d.LinesOk
  lg : refuseM S.M d = ""
  few : ∀ ls, d = .ord ls → S.M.length < 40
theorem Legal.ref {S : BS} {d : Deed} (h : Legal S d) : refusalM S.M d = "" := by rw [← refuse_ok h.lo h.few]; exact h.lg
def penD (k : Nat) : Deed := .ord [⟨"pen", 1 + (k : Int), 3, 1⟩]
theorem pen_ok (k : Nat) (hk : k < 40) : (⟨"pen", 1 + (k : Int), 3, 1⟩ : LineT).Ok :=
  ⟨by show 1 ≤ 1 + (k : Int); omega, by show 1 + (k : Int) ≤ 1000000; omega, by show (0 : Int) ≤ 3; decide, by show (3 : Int) ≤ 1000000000; decide, by show (1 : Int) ≤ 1; decide, by show (1 : Int) ≤ 1000; decide,
    by show 1 ≤ ("pen" : Str).length; decide +kernel, by show ("pen" : Str).length ≤ 12; decide +kernel, by show ∀ c ∈ ("pen" : Str).cps.toList, 97 ≤ c ∧ c ≤ 122; decide +kernel⟩
theorem legal_pen {S : BS} (h : S.M.length < 40) : Legal S (penD S.M.length) := by
  have lo : (penD S.M.length).LinesOk := ⟨Nat.le_refl 1, by show 1 ≤ 20; decide, fun t ht => by rw [List.mem_singleton.mp ht]; exact pen_ok _ h⟩
  exact ⟨trivial, lo, refuse_ok lo (fun _ _ => h), fun _ _ => h⟩
theorem at_pen {M : List Od} {m : Od} : ordAt (M ++ [m]) (M.length : Int) = m := by
  unfold ordAt
  rw [List.getD_eq_getElem?_getD, Int.toNat_natCast, List.getElem?_append_right (Nat.le_refl _), Nat.sub_self]
  rfl
theorem in_pen {M : List Od} {m : Od} : inR (M.length : Int) (M ++ [m]).length = true := inR_iff.mpr ⟨by omega, by rw [List.length_append]; show (M.length : Int) < ((M.length + 1 : Nat) : Int); omega⟩
theorem legal_deliver {S : BS} : Legal (S.did (penD S.M.length)) (.goods "deliver" S.M.length 0 (1 + (S.M.length : Int) / 2)) := by
  refine ⟨.inl rfl, trivial, ?_, fun _ z => nomatch z⟩
  show refusalM (S.did (penD S.M.length)).M (.goods "deliver" (S.M.length : Int) 0 (1 + (S.M.length : Int) / 2)) = ""
  rw [show (S.did (penD S.M.length)).M = S.M ++ [⟨[(⟨"pen", 1 + (S.M.length : Int), 3, 1⟩ : LineT).new], 0, []⟩] from rfl]
  rw [refusal_goods, if_neg (by rw [in_pen]; exact Bool.noConfusion), at_pen, if_neg (by show ¬ inR 0 1 = false; decide), if_neg (by omega), if_neg ?_]
  unfold mostM
  rw [if_neg (by rw [in_pen]; exact Bool.noConfusion), if_neg (by decide +kernel), if_neg (by decide +kernel), at_pen, if_neg (by show ¬ inR 0 1 = false; decide)]
  show ¬ mostL "deliver" ⟨"pen", 1 + (S.M.length : Int), 3, 1, 0, 0, 0, 0⟩ < _
  unfold mostL
  rw [if_pos rfl]
  show ¬ (1 + (S.M.length : Int)) - 0 + 0 < _
  omega
theorem legal_pay {S : BS} (h : 1 ≤ S.M.length) : Legal (S.did (penD S.M.length)) (.money "pay" S.M.length (5 * (S.M.length : Int))) := by
  refine ⟨.inl rfl, trivial, ?_, fun _ z => nomatch z⟩
  show refusalM (S.did (penD S.M.length)).M (.money "pay" (S.M.length : Int) (5 * (S.M.length : Int))) = ""
  rw [show (S.did (penD S.M.length)).M = S.M ++ [⟨[(⟨"pen", 1 + (S.M.length : Int), 3, 1⟩ : LineT).new], 0, []⟩] from rfl]
  rw [refusal_money, if_neg (by rw [in_pen]; exact Bool.noConfusion), if_neg (by omega), if_neg (fun z => z.1 rfl)]
end
end Of

set_option Elab.async false
set_option linter.all false
set_option maxRecDepth 100000
set_option maxHeartbeats 4000000
/-! One book alone. -/
namespace Of
open PySem PyProof.Rows L2
/-- what the book owns has grown and changed; nothing else -/
structure Bo (fp : Addr → Prop) (H : Hp) (fp' : Addr → Prop) (H' : Hp) : Prop where
  g : GrowF fp fp' H
  k : Keep fp H H'
section
variable {fp fp1 fp2 : Addr → Prop} {H H1 H2 : Hp} {R : BRep} {b : Addr} {S : BS}
theorem Bo.refl : Bo fp H fp H := ⟨.refl, .refl H⟩
theorem Bo.same (s : Same H H1) : Bo fp H fp H1 := ⟨.refl, .same s⟩
theorem Bo.trans (a : Bo fp H fp1 H1) (c : Bo fp1 H1 fp2 H2) : Bo fp H fp2 H2 := ⟨a.g.trans c.g a.k, a.k.then c.k fun x z => a.g.n x z⟩
theorem Bo.off (a : Bo fp H fp1 H1) : Same (off fp H) (off fp1 H1) := off_keep a.k (fun _ z => z) a.g
theorem BRep.same (r : R.Rep fp H b S) (s : Same H H1) : R.Rep fp H1 b S := R.stays r (fun a o _ e => s a o e) fun a o _ e => s a o e
end
/-- an order of one line -/
def M1 (l : Ln) (rows : List (Str × Int)) : List Od := [⟨[l], 0, rows⟩]
theorem owed_1 {l : Ln} {p : Int} {rows : List (Str × Int)} : (⟨[l], p, rows⟩ : Od).owed = l.charge - p := by
  show ([l.charge].sum) - p = _
  rw [List.sum_cons, List.sum_nil, Int.add_zero]
theorem refuse_1 {l : Ln} {p : Int} {rows : List (Str × Int)} {x : Str} {n : Int} (gw : GoodsW x) : refuseM [⟨[l], p, rows⟩] (.goods x 0 0 n) = if n < 1 then ("NoNumber" : Str) else if mostL x l < n then ("TooMuch" : Str) else ("" : Str) := by
  obtain ⟨_, n2, n3, n4⟩ := goods_ne gw
  show refusalM [⟨[l], p, rows⟩] (.goods x 0 0 n) = _
  rw [refusal_goods, if_neg (by show ¬ inR 0 1 = false; decide), if_neg (by show ¬ inR 0 1 = false; decide)]
  have e : mostM x 0 0 [⟨[l], p, rows⟩] = mostL x l := by
    unfold mostM
    rw [if_neg (by show ¬ inR 0 1 = false; decide), if_neg n3, if_neg (by simp only [not_or]; exact ⟨n4, n2⟩), if_neg (by show ¬ inR 0 1 = false; decide)]
    rfl
  rw [e]
theorem changes_1 {l : Ln} {rows : List (Str × Int)} {x : Str} {n : Int} : changesM (M1 l rows) (.goods x 0 0 n) = [(0, (turnL x n l).charge - l.charge)] := by
  show [((0 : Int), (ordAt (turnM (M1 l rows) (.goods x 0 0 n)) 0).owed - (ordAt (M1 l rows) 0).owed)] = _
  rw [show ordAt (turnM (M1 l rows) (.goods x 0 0 n)) 0 = ⟨[turnL x n l], 0, rows⟩ from rfl, show ordAt (M1 l rows) 0 = ⟨[l], 0, rows⟩ from rfl, owed_1, owed_1, Int.sub_zero, Int.sub_zero]
theorem step_1 {l : Ln} {rows : List (Str × Int)} {x : Str} {n : Int} : ∃ rows', stepM (M1 l rows) (.goods x 0 0 n) = M1 (turnL x n l) rows' := by
  rw [stepM_no (fun _ z => by cases z), changes_1]
  exact ⟨_, rfl⟩
end Of

set_option Elab.async false
set_option linter.all false
set_option maxRecDepth 100000
set_option maxHeartbeats 4000000
/-! What the program's own text wants: two more built-ins, a list's place read and written anew, a method of a class, enumerate within a comprehension. -/
namespace Of
open PySem PySem.Spec PyProof.Rows L2
structure Bl2 (mg : Str → Option Value) : Prop where
  m_enumerate : mg "enumerate" = none
  m_all : mg "all" = none
/-- xs[k], by values -/
def rGetL (K : PySem.W.Frag) : V → V → Hp → VK → Prop := fun o i H Q => ∃ p xs k v, o = .ref p ∧ i = .int k ∧ SqL K H p xs ∧ 0 ≤ k ∧ atI xs k = some v ∧ Q v H
theorem get_list {X : Cx} : PGet X (rGetL X.K) := by
  intro pins s σ H o i ov iv Q I ro ri h
  obtain ⟨p, xs, k, z, rfl, rfl, hq, h0, he, q⟩ := h
  cases ro
  obtain ⟨t, rfl⟩ := ri
  obtain ⟨its, r, pl, hz⟩ := I.list hq
  obtain ⟨j, h1, h2, h3, h4, h5⟩ := atI_get he
  obtain ⟨w, ew, rw'⟩ := r.get h2
  have hl := r.length
  have hn := line63
  have hj : k.toNat = j := by
    rw [seqIndex_of h0 h5] at h1
    exact Option.some.inj h1
  exact wpAny_getItem_list pl.isList h0 (by omega) (by rw [hj]; simpa using ew) ⟨z, H, I, rw', q⟩
theorem kg_list {X : Cx} (K : PySem.W.Frag) (h : X.K = K := by rfl) : PGet X (rGetL K) := h ▸ get_list
/-! ### a method of a class -/
structure MCal (P : Program) (w : World) (K : PySem.W.Frag) (mg : Str → Option Value) (base : Heap) (CX : CXT) (k : Nat) (C : Addr) (m : Str) (ps : List Str) (sp : Sp) : Prop where
  cls : Cls K C
  ex : ∃ f fd, Meth K C m f ∧ FnOk P w K mg base CX k f fd ps sp ∧ Binds K fd ps []
/-- an instance without an attribute of the method's name -/
def IsI (C : Addr) (m : Str) (H : Hp) (x : V) : Prop := ∃ a dx fs, x = .ref a ∧ H a = some (.ins C dx fs) ∧ fs.lookup m = none
def tM (C : Addr) (m : Str) (sp : Sp) (E : XK) (ta : TE) (t : TA) : TE := fun σ H Q => ta σ H fun x H1 => IsI C m H1 x ∧ t σ H1 fun vs H2 => sp (x :: vs) H2 Q E
def tMS (C : Addr) (m : Str) (sp : Sp) (E : L2.St → XK) (ta : TE) (t : TA) : TE := fun σ H Q => ta σ H fun x H1 => IsI C m H1 x ∧ t σ H1 fun vs H2 => sp (x :: vs) H2 Q (E σ)
section
variable {X : Cx} {CX : CXT} {k : Nat} {C : Addr} {ps : List Str} {sp : Sp} {E : XK} {ES : L2.St → XK} {m : Str} {p pos apos : Pos} {e o : Expr} {es : List Expr} {ta : TE} {t : TA}
theorem MCal.mono {P : Program} {w : World} {K : PySem.W.Frag} {mg : Str → Option Value} {base : Heap} {j : Nat} (c : MCal P w K mg base CX j C m ps sp) (h : j ≤ k) : MCal P w K mg base CX k C m ps sp := by
  obtain ⟨f, fd, hm, F, r⟩ := c.ex
  exact ⟨c.cls, f, fd, hm, F.mono h, r⟩
theorem MCal.imp {P : Program} {w : World} {K : PySem.W.Frag} {mg : Str → Option Value} {base : Heap} {sp' : Sp} (c : MCal P w K mg base CX k C m ps sp) (h : ∀ vs H Q E, sp' vs H Q E → sp vs H Q E) : MCal P w K mg base CX k C m ps sp' := by
  obtain ⟨f, fd, hm, F, r⟩ := c.ex
  exact ⟨c.cls, f, fd, hm, F.imp h, r⟩
theorem pe_m {pl : Sem Bool} (B : MCal X.prog X.w X.K X.mg X.base CX k C m ps sp) (he : PE X o ta) (hr : Room k X.A) (hx : Passes CX X E) (ha : PA X (e :: es) t)
    (hst : starEach (e :: es) X.env = (false, eval e X.env) :: starEach es X.env := by rfl) (hpl : (backTo pos (starEach es X.env)).any (·.1) = false := by rfl)
    (ht : eval (.Call (.Attribute o m apos) (e :: es) [] pos) X.env = (do
      let ov ← eval o X.env
      standAt apos.atName
      let (f, first) ← holding [ov] (getMethod ov m pl)
      callWith pos f first (backTo pos (starEach (e :: es) X.env)) (backToKw pos (keywordEach [] X.env))) := by rfl) :
    PE X (.Call (.Attribute o m apos) (e :: es) [] pos) (tM C m sp E ta t) := by
  obtain ⟨f, fd, hm, F, hb⟩ := B.ex
  refine ⟨fun pins s σ H Q I h => ?_⟩
  refine PySem.W.methodCall_KW (pl := pl) (thn (he.run pins s σ H _ I h) fun u s1 ⟨x, H1, I1, rx, ⟨a, dx, fs, ex, ea, l⟩, q⟩ => ?_) ht
  subst ex
  obtain rfl : u = Value.ref a := rx
  refine getmeth_ok I1 ea B.cls hm l ?_
  refine PySem.W.callWith_K (first := [.ref a]) (h₀ := X.base) I.ok.mod.kin hm.kp (thn (ha.run pos pins s1 σ H1 _ I1 q) fun us s2 ⟨vs, H2, I2, r, q2⟩ => ⟨I2.kIn, ?_⟩) hst hpl
  exact run_fn (us := .ref a :: us) (vs := .ref a :: vs) (dvs := []) F hr hb .nil hx I2 (.cons rfl r) (by rw [List.append_nil]; exact q2)
theorem pe_m0 {pl : Sem Bool} (B : MCal X.prog X.w X.K X.mg X.base CX k C m ps sp) (he : PE X o ta) (hr : Room k X.A) (hx : Passes CX X E)
    (ht : eval (.Call (.Attribute o m apos) [] [] pos) X.env = (do
      let ov ← eval o X.env
      standAt apos.atName
      let (f, first) ← holding [ov] (getMethod ov m pl)
      callWith pos f first (backTo pos (starEach [] X.env)) (backToKw pos (keywordEach [] X.env))) := by rfl) :
    PE X (.Call (.Attribute o m apos) [] [] pos) (tM C m sp E ta tNil) := by
  obtain ⟨f, fd, hm, F, hb⟩ := B.ex
  refine ⟨fun pins s σ H Q I h => ?_⟩
  refine PySem.W.methodCall_KW (pl := pl) (thn (he.run pins s σ H _ I h) fun u s1 ⟨x, H1, I1, rx, ⟨a, dx, fs, ex, ea, l⟩, q⟩ => ?_) ht
  subst ex
  obtain rfl : u = Value.ref a := rx
  refine getmeth_ok I1 ea B.cls hm l ?_
  exact PySem.W.callWith_K0 (first := [.ref a]) I1.kIn hm.kp (run_fn (us := [.ref a]) (vs := [.ref a]) (dvs := []) F hr hb .nil hx I1 (.cons rfl .nil) q)
end
/-! ### enumerate within a comprehension -/
theorem wipe2 {σ : L2.St} {i j : Nat} {x y : Option V} (h : i ≠ j) : wipe (((wipe σ [i, j]).set i x).set j y) [i, j] = wipe σ [i, j] := by
  show (((((σ.set j none).set i none).set i x).set j y).set j none).set i none = (σ.set j none).set i none
  rw [List.set_set, List.set_set, List.set_comm x none h, List.set_set, List.set_set]
/-- the places of the ints that c takes, from k on -/
def placesOf (c : Int → Bool) (k : Nat) : List Int → List Nat
  | [] => []
  | x :: r => if c x = true then k :: placesOf c (k + 1) r else placesOf c (k + 1) r
theorem placesOf_app (c : Int → Bool) (x : Int) : ∀ (l : List Int) (k : Nat), placesOf c k (l ++ [x]) = placesOf c k l ++ (if c x = true then [k + l.length] else [])
  | [], k => by
    show (if c x = true then [k] else []) = _
    simp [placesOf]
  | y :: l, k => by
    have ih := placesOf_app c x l (k + 1)
    show (if c y = true then k :: placesOf c (k + 1) (l ++ [x]) else placesOf c (k + 1) (l ++ [x])) = (if c y = true then k :: placesOf c (k + 1) l else placesOf c (k + 1) l) ++ _
    rw [ih]
    have e : k + 1 + l.length = k + (y :: l).length := by simp only [List.length_cons]; omega
    rw [e]
    split <;> rfl
theorem placesOf_len (c : Int → Bool) : ∀ (l : List Int) (k : Nat), (placesOf c k l).length ≤ l.length
  | [], _ => Nat.le_refl _
  | y :: l, k => by
    have ih := placesOf_len c l (k + 1)
    unfold placesOf
    split <;> simp only [List.length_cons] <;> omega
/-- [place for place, x in enumerate(xs) if t] over a list of ints -/
theorem lcE_filter {K : PySem.W.Frag} {tt : TT} {te : TE} {σ : L2.St} {i j : Nat} {a D : Addr} {H1 : Hp} {Qd : Hp → Prop} {ns : List Int} (c : Int → Bool) (hij : i ≠ j) (hz : ns.length ≤ 100000) (hS : SqL K H1 a (ns.map V.int)) (hD : H1 D = none)
    (test : ∀ (k : Nat) (x : Int) (H : Hp) (R : Bool → Hp → Prop), Same H1 H → R (c x) H → tt (((wipe σ [i, j]).set i (some (.int (k : Nat)))).set j (some (.int x))) H R)
    (turn : ∀ (k : Nat) (x : Int) (H : Hp) (R : VK), Same H1 H → R (.int (k : Nat)) H → te (((wipe σ [i, j]).set i (some (.int (k : Nat)))).set j (some (.int x))) H R)
    (fin : ∀ H', Same H1 H' → H' D = some (.lst ((placesOf c 0 ns).map fun k : Nat => V.int (k : Nat))) → Qd H') :
    ∃ W : Nat → Nat → Hp → Prop, (∃ m, W 0 m (upd H1 D (.lst []))) ∧ ∀ n m H, W n m H →
      ((Ite K a).stop n H ∧ Qd H) ∨ ((Ite K a).go n H ∧ ∃ Nx : Hp → Prop, (∀ H', Nx H' → ∃ m', m' < m ∧ W (n + 1) m' H') ∧ ∀ x H', (Ite K a).yld n H x H' → gTup K 2 (gCons (gName i) (gCons (gName j) gNil)) x (wipe σ [i, j]) H' fun σ2 H2 => wipe σ2 [i, j] = wipe σ [i, j] ∧ tt σ2 H2 fun b H3 =>
        if b = true then te σ2 H3 fun y H4 => ∃ acc, H4 D = some (.lst acc) ∧ acc.length < sizeLine ∧ Nx (upd H4 D (.lst (acc ++ [y]))) else Nx H3) := by
  refine ⟨fun n m H => m = ns.length - n ∧ n ≤ ns.length ∧ Same H1 H ∧ H D = some (.lst ((placesOf c 0 (ns.take n)).map fun k : Nat => V.int (k : Nat))), ⟨ns.length, by simp, Nat.zero_le _, same_new hD, upd_same⟩, ?_⟩
  rintro n m H ⟨rfl, hn, s, hd⟩
  have q := same_l s hS
  by_cases hlt : n < ns.length
  · have e1 : (ns.map V.int)[n]? = some (.int ns[n]) := by rw [List.getElem?_map, List.getElem?_eq_getElem hlt]; rfl
    refine .inr ⟨⟨_, _, q, e1⟩, fun H' => Same H1 H' ∧ H' D = some (.lst ((placesOf c 0 (ns.take (n + 1))).map fun k : Nat => V.int (k : Nat))), fun H' p' => ⟨ns.length - (n + 1), by omega, rfl, hlt, p'⟩, fun x H' y => ?_⟩
    obtain ⟨T, v, rfl, hT, rfl, hv⟩ := y
    have hv := hv _ q
    rw [e1] at hv
    have hv := Option.some.inj hv
    subst hv
    have s1 : Same H (upd H T (.tup [.int (n : Nat), .int ns[n]])) := same_new hT
    have hd1 := s1 _ _ hd
    have e2 : ns.take (n + 1) = ns.take n ++ [ns[n]] := take_succ' (List.getElem?_eq_getElem hlt)
    have e3 : (ns.take n).length = n := by rw [List.length_take]; omega
    refine ⟨T, _, rfl, SqT.of upd_same, rfl, _, _, rfl, _, _, rfl, rfl, wipe2 hij, ?_⟩
    refine test n ns[n] _ _ (s.trans s1) ?_
    refine ite2 (fun h => ?_) (fun h => ?_)
    · refine turn n ns[n] _ _ (s.trans s1) ⟨_, hd1, Evl.sz_lt ?_, same_mut (s.trans s1) hD, ?_⟩
      · have := placesOf_len c (ns.take n) 0
        rw [List.length_map]
        omega
      · rw [upd_same, e2, placesOf_app, h, if_pos rfl, e3, Nat.zero_add, List.map_append]
        rfl
    · refine ⟨s.trans s1, ?_⟩
      rw [hd1, e2, placesOf_app, if_neg h, List.append_nil]
  · have e : n = ns.length := by omega
    subst e
    rw [List.take_length] at hd
    exact .inl ⟨⟨_, q, by simp⟩, fin H s hd⟩
end Of

set_option Elab.async false
set_option linter.all false
set_option maxRecDepth 100000
set_option maxHeartbeats 4000000
/-! The program's own classes: how a line, an order and a book lie in the heap, and what a change of one part leaves. -/
namespace Of
open PySem PySem.Spec PyProof.Rows L2
/-! ### rules -/
theorem op_notInDT {X : Cx} (hu : X.A.units + 65 < cLine) : OpR X (compareOp .NotIn) (fun x y H Q => ∃ d ds, Dp X.K H x d ∧ Dp X.K H y (.tuple ds) ∧ SeqAt.shaped d = true ∧ SeqAt.shaped (.tuple ds) = true ∧ Q (.bl (!ds.any fun z => PyData.eqv z d)) H) := by
  intro pins s σ H x y v u Q I rx ry h
  obtain ⟨d, ds, hd, he, sd, se, q⟩ := h
  obtain ⟨as, r1⟩ := Dp.reads I d x v hd rx
  obtain ⟨bs, r2⟩ := Dp.reads I (.tuple ds) y u he ry
  exact SeqAt.notIn_tuple_reads r2 r1 (SeqAt.canLay_of_shaped se) (SeqAt.canLay_of_shaped sd) (room_in_shaped sd hu) ⟨.bl _, H, I, rfl, q⟩
def rNotInDT (K : PySem.W.Frag) : R2 := fun x y H Q => ∃ d ds, Dp K H x d ∧ Dp K H y (.tuple ds) ∧ SeqAt.shaped d = true ∧ SeqAt.shaped (.tuple ds) = true ∧ Q (.bl (!ds.any fun z => PyData.eqv z d)) H
theorem ko_notInDT {X : Cx} (K : PySem.W.Frag) (hu : X.A.units + 65 < cLine) (h : X.K = K := by rfl) : OpR X (compareOp .NotIn) (rNotInDT K) := h ▸ op_notInDT hu
theorem _root_.L2.Room.units65 {k : Nat} {A : Around} (r : Room k A) : A.units + 65 < cLine := by have := r.un; omega
theorem kc_all {X : Cx} (K : PySem.W.Frag) (hc : X.calm = true) (h : X.K = K := by rfl) : CallR X (.builtin "all") (fun xs H Q => ∃ (a : Addr) (bs : List Bool), xs = [.ref a] ∧ SqL K H a (bs.map V.bl) ∧ Q (.bl (bs.all id)) H) := h ▸ cr_all hc
/-- o.f = .. as a target among others -/
def gFld (K : PySem.W.Frag) (to : TE) (f : Str) : TG := fun v σ H Q => to σ H fun x H1 => ∃ a C dx fs, x = .ref a ∧ H1 a = some (.ins C dx fs) ∧ Cls K C ∧ NoAttr K C f ∧ fs.length < 1000 ∧ Q σ (upd H1 a (.ins C dx (putF f v fs)))
theorem pg_fld {X : Cx} {o : Expr} {f : Str} {pos : Pos} {to : TE} (ho : PE X o to) : PG X (.Attribute o f pos) (gFld X.K to f) := by
  refine ⟨fun pins s σ H v u Q I r h => ?_⟩
  rw [assign_Attribute]
  refine wpAny_bind (wpAny_holding (thn (ho.run pins s σ H _ I h) fun ov s1 ⟨x, H1, I1, rx, a, C, dx, fs, ex, ea, c, n, l, q⟩ => ?_))
  subst ex
  obtain rfl : ov = Value.ref a := rx
  refine wpAny_bind (wpAny_standAt (wpAny_bind (wpAny_holding (setattr_ok I1 ea c n l r fun s2 I2 => ?_))))
  exact wpAny_release ⟨σ, _, I2, q⟩
/-! ### an object made -/
structure MkC (P : Program) (w : World) (K : PySem.W.Frag) (mg : Str → Option Value) (base : Heap) (CX : CXT) (k : Nat) (C : Addr) (x : Str) (ps : List Str) (sp : Sp) : Prop where
  ex : ∃ f fd, Mk K C f ∧ FnOk P w K mg base CX k f fd ps sp ∧ Binds K fd ps []
  g : mg x = some (.ref C)
def tMkC (C : Addr) (sp : Sp) (E : XK) (t : TA) : TE := fun σ H Q => t σ H fun vs H1 => ∀ x dx, H1 x = none → H1 dx = none → dx ≠ x → sp (.ref x :: vs) (upd (upd H1 dx (.own x)) x (.ins C dx [])) (fun v H2 => v = .non ∧ Q (.ref x) H2) E
theorem pe_mkC {X : Cx} {CX : CXT} {k : Nat} {C : Addr} {x : Str} {ps : List Str} {sp : Sp} {E : XK} {p pos : Pos} {e : Expr} {es : List Expr} {t : TA} (M : MkC X.prog X.w X.K X.mg X.base CX k C x ps sp) (hr : Room (k + 1) X.A) (hx : Passes CX X E) (ha : PA X (e :: es) t)
    (hg : Gl X x := by rfl) (hdb : (x == ("__debug__" : Str)) = false := by decide) (he : starEach (e :: es) X.env = (false, eval e X.env) :: starEach es X.env := by rfl) (hpl : (backTo pos (starEach es X.env)).any (·.1) = false := by rfl) :
    PE X (.Call (.Name x p) (e :: es) [] pos) (tMkC C sp E t) := by
  obtain ⟨f, fd, mk, F, hb⟩ := M.ex
  refine ⟨fun pins s σ H Q I h => ?_⟩
  refine wpAny_Call_Name_kw (ld_glob I hg M.g ?_ hdb)
  refine PySem.W.callWith_K (h₀ := X.base) I.ok.mod.kin mk.kp (thn (ha.run pos pins s σ H _ I h) fun us s1 ⟨vs, H1, I1, r, q⟩ => ⟨I1.kIn, ?_⟩) he hpl
  exact run_make mk F hr hb .nil hx I1 r (by simp only [List.append_nil]; exact q)
/-! ### the classes of the refusals, made -/
structure ErrMk (K : PySem.W.Frag) (mg : Str → Option Value) (cl : Str → Addr) : Prop where
  g : ∀ n ∈ errNames, mg n = some (.ref (cl n))
  q : ∀ n ∈ errNames, PySem.W.excIn K (cl n) [.type "ValueError", .type "Exception", .type "BaseException", .type "object"] "ValueError.__new__" = true
  kp : ∀ n ∈ errNames, PySem.W.keepIn K (.ref (cl n)) = true
  sb : ∀ n ∈ errNames, PySem.W.subIn K (.ref (cl n)) (.type "BaseException") = some true
  ty : ∀ n ∈ errNames, PySem.W.typeIn K (.ref (cl n)) = some (.type "type")
theorem ErrMk.pmk {X : Cx} {cl : Str → Addr} (E : ErrMk X.K X.mg cl) (n : Str) (hn : n ∈ errNames) {m : Str} {j : Nat} {p p2 pos : Pos} (hg : Gl X n := by rfl) (hdb : (n == ("__debug__" : Str)) = false := by decide) :
    PMk X (.Call (.Name n p) [.Constant (.str m) j p2] [] pos) (fun _ H Q => Q (.ref (cl n)) none H) :=
  pmk_own PySem.F.excBase_ValueError (E.q n hn) (E.g n hn) (E.kp n hn) (raises_own (E.sb n hn) (E.ty n hn)) hg hdb
/-! ### what the written part says of the program's classes -/
abbrev lineNames : List Str := ["item", "ordered", "cents", "pack", "sent", "home", "again", "credited"]
abbrev orderNames : List Str := ["lines", "received", "changed", "_ahead"]
abbrev bookNames : List Str := ["_orders", "_deeds"]
structure PF (K : PySem.W.Frag) (CL CO CB : Addr) : Prop where
  cL : Cls K CL
  cO : Cls K CO
  cB : Cls K CB
  nL : ∀ f ∈ lineNames, NoAttr K CL f
  nO : ∀ f ∈ orderNames, NoAttr K CO f
  nB : ∀ f ∈ bookNames, NoAttr K CB f
def lnF (l : Ln) : List (Str × V) := [("item", .str l.item), ("ordered", .int l.pieces), ("cents", .int l.cents), ("pack", .int l.pack), ("sent", .int l.sent), ("home", .int l.home), ("again", .int l.again), ("credited", .int l.credited)]
/-- an order's parts -/
structure OA2 where
  a : Addr
  dx : Addr
  ls : Addr
  ch : Addr
  ah : Addr
  q : Addr
  lns : List Addr
/-- what stood ahead of a change -/
structure Ent where
  rc : Int
  ln : Option (Nat × Int × Int × Int × Int)
def Foot (o : OA2) (x : Addr) : Prop := x = o.a ∨ x = o.ls ∨ x = o.ch ∨ x = o.ah ∨ x ∈ o.lns
def odF (o : OA2) (p : Int) : List (Str × V) := [("lines", .ref o.ls), ("received", .int p), ("changed", .ref o.ch), ("_ahead", .ref o.ah)]
def EntAt (K : PySem.W.Frag) (H : Hp) (o : OA2) (v : V) (e : Ent) : Prop := ∃ t, v = .ref t ∧
  ((e.ln = none ∧ SqT K H t [.int e.rc, .non, .non]) ∨ ∃ j s h a c x u, e.ln = some (j, s, h, a, c) ∧ o.lns[j]? = some x ∧ SqT K H t [.int e.rc, .ref x, .ref u] ∧ SqT K H u [.int s, .int h, .int a, .int c])
structure OdAt2 (K : PySem.W.Frag) (CL CO : Addr) (H : Hp) (o : OA2) (m : Od) (es : List Ent) : Prop where
  hd : H o.a = some (.ins CO o.dx (odF o m.paid))
  hl : H o.ls = some (.lst (o.lns.map V.ref))
  len : o.lns.length = m.lines.length
  ln : ∀ (i : Nat) x l, o.lns[i]? = some x → m.lines[i]? = some l → ∃ dx, H x = some (.ins CL dx (lnF l))
  hc : ∃ cs, H o.ch = some (.lst cs) ∧ DpAll K H cs (m.rows.map rowD)
  ha : ∃ as, H o.ah = some (.lst as) ∧ Paired (EntAt K H o) as es
  nd : (o.a :: o.ls :: o.ch :: o.ah :: o.lns).Nodup
/-! ### tuples stay -/
/-- tuples stay what they are -/
def TupK (H H' : Hp) : Prop := ∀ a o, TupO o → H a = some o → H' a = some o
theorem TupK.trans {H H1 H2 : Hp} (a : TupK H H1) (b : TupK H1 H2) : TupK H H2 := fun x o t e => b x o t (a x o t e)
theorem TupK.same {H H' : Hp} (s : Same H H') : TupK H H' := fun x o _ e => s x o e
theorem Keep.tupK {F : Addr → Prop} {H H' : Hp} (k : Keep F H H') : TupK H H' := fun _ _ t e => k.tups t e
theorem tupK_upd {H : Hp} {x : Addr} {u w : HO} (h : H x = some u) (n : ¬ TupO u) : TupK H (upd H x w) := fun a o t e => by
  by_cases z : a = x
  · rw [z, h] at e
    rw [← Option.some.inj e] at t
    exact absurd t n
  · rw [upd_ne z]; exact e
theorem no_lst {xs : List V} : ¬ TupO (.lst xs) := fun h => tupO_lst h
theorem no_ins {C dx : Addr} {fs : List (Str × V)} : ¬ TupO (.ins C dx fs) := fun h => by
  obtain ⟨xs, h | ⟨t, h⟩⟩ := h <;> cases h
theorem no_own {x : Addr} : ¬ TupO (.own x) := fun h => by
  obtain ⟨xs, h | ⟨t, h⟩⟩ := h <;> cases h
section
variable {K : PySem.W.Frag} {H H' : Hp} {CL CO CB : Addr} {o : OA2} {m : Od} {es : List Ent}
theorem SqT.tupK {a : Addr} {xs : List V} (t : TupK H H') (h : SqT K H a xs) : SqT K H' a xs := by
  rcases h with (h | ⟨o, h⟩) | h
  · exact .inl (.inl (t _ _ ⟨_, .inl rfl⟩ h))
  · exact .inl (.inr ⟨o, t _ _ ⟨_, .inr ⟨o, rfl⟩⟩ h⟩)
  · exact .inr h
theorem FlatT.tupK {v : V} {d : PyData} (f : FlatT d) (t : TupK H H') (dv : Dp K H v d) : Dp K H' v d := by
  obtain ⟨ps, rfl, hl, h⟩ := f
  obtain ⟨a, xs, rfl, ha, hx⟩ := dp_tuple dv
  refine .tup (SqT.tupK t ha) ?_
  clear ha dv hl
  induction ps generalizing xs with
  | nil => cases hx; exact .nil
  | cons p r ih =>
    cases hx with
    | cons h1 h2 =>
      refine .cons ?_ (ih (fun p hp => h p (.tail _ hp)) _ h2)
      rcases h p (.head _) with ⟨z, rfl, _⟩ | ⟨i, rfl⟩
      · rw [dp_str h1]; exact .str _
      · rw [dp_int h1]; exact .int _
theorem flat_tupK (t : TupK H H') : ∀ {xs : List V} {ds : List PyData}, (∀ d ∈ ds, FlatT d) → DpAll K H xs ds → DpAll K H' xs ds
  | _, _, _, .nil => .nil
  | _, _, h, .cons h1 h2 => .cons ((h _ (.head _)).tupK t h1) (flat_tupK t (fun d hd => h d (.tail _ hd)) h2)
theorem FlatT.row {r : Str × Int} (h : PyData.strOk r.1 = true) : FlatT (rowD r) := ⟨_, rfl, by show 2 ≤ 100; decide, fun p hp => by
  simp only [List.mem_cons, List.not_mem_nil, or_false] at hp
  rcases hp with rfl | rfl
  · exact .inl ⟨_, rfl, h⟩
  · exact .inr ⟨_, rfl⟩⟩
theorem rows_flat {rs : List (Str × Int)} (h : ∀ r ∈ rs, PyData.strOk r.1 = true) : ∀ d ∈ rs.map rowD, FlatT d := fun d hd => by
  obtain ⟨r, hr, rfl⟩ := List.mem_map.mp hd
  exact .row (h r hr)
theorem FlatT.line {t : LineT} (h : PyData.strOk t.item = true) : FlatT (lineD t) := ⟨_, rfl, by show 4 ≤ 100; decide, fun p hp => by
  simp only [List.mem_cons, List.not_mem_nil, or_false] at hp
  rcases hp with rfl | rfl | rfl | rfl
  · exact .inl ⟨_, rfl, h⟩
  · exact .inr ⟨_, rfl⟩
  · exact .inr ⟨_, rfl⟩
  · exact .inr ⟨_, rfl⟩⟩
theorem EntAt.tupK {v : V} {e : Ent} (t : TupK H H') (h : EntAt K H o v e) : EntAt K H' o v e := by
  obtain ⟨p, rfl, h⟩ := h
  refine ⟨p, rfl, h.imp (fun ⟨h1, h2⟩ => ⟨h1, SqT.tupK t h2⟩) fun ⟨j, s, h, a, c, x, u, h1, h2, h3, h4⟩ => ⟨j, s, h, a, c, x, u, h1, h2, SqT.tupK t h3, SqT.tupK t h4⟩⟩
theorem Paired.imp {α β : Type} {R S : α → β → Prop} (f : ∀ x y, R x y → S x y) : ∀ {xs : List α} {ys : List β}, Paired R xs ys → Paired S xs ys
  | _, _, .nil => .nil
  | _, _, .cons h r => .cons (f _ _ h) (Paired.imp f r)
theorem paired_append {α β : Type} {R : α → β → Prop} : ∀ {xs xs' : List α} {ys ys' : List β}, Paired R xs ys → Paired R xs' ys' → Paired R (xs ++ xs') (ys ++ ys')
  | _, _, _, _, .nil, h => h
  | _, _, _, _, .cons a r, h => .cons a (paired_append r h)
/-- what stays of an order -/
theorem OdAt2.frame (O : OdAt2 K CL CO H o m es) (rw_ : ∀ r ∈ m.rows, PyData.strOk r.1 = true) (f : ∀ x u, Foot o x → H x = some u → H' x = some u) (t : TupK H H') : OdAt2 K CL CO H' o m es := by
  obtain ⟨cs, c1, c2⟩ := O.hc
  obtain ⟨as, a1, a2⟩ := O.ha
  exact ⟨f _ _ (.inl rfl) O.hd, f _ _ (.inr (.inl rfl)) O.hl, O.len, fun i x l hx hl => by
    obtain ⟨dx, e⟩ := O.ln i x l hx hl
    exact ⟨dx, f _ _ (.inr (.inr (.inr (.inr (List.mem_of_getElem? hx))))) e⟩, ⟨cs, f _ _ (.inr (.inr (.inl rfl))) c1, flat_tupK t (rows_flat rw_) c2⟩, ⟨as, f _ _ (.inr (.inr (.inr (.inl rfl)))) a1, Paired.imp (fun _ _ h => h.tupK t) a2⟩, O.nd⟩
theorem nd_of (O : OdAt2 K CL CO H o m es) : o.a ≠ o.ls ∧ o.a ≠ o.ch ∧ o.a ≠ o.ah ∧ o.a ∉ o.lns ∧ o.ls ≠ o.ch ∧ o.ls ≠ o.ah ∧ o.ls ∉ o.lns ∧ o.ch ≠ o.ah ∧ o.ch ∉ o.lns ∧ o.ah ∉ o.lns ∧ o.lns.Nodup := by
  have := O.nd
  simp only [List.nodup_cons, List.mem_cons, not_or] at this
  obtain ⟨⟨a1, a2, a3, a4⟩, ⟨b1, b2, b3⟩, ⟨c1, c2⟩, d1, e1⟩ := this
  exact ⟨a1, a2, a3, a4, b1, b2, b3, c1, c2, d1, e1⟩
theorem OdAt2.setLine (O : OdAt2 K CL CO H o m es) (rw_ : ∀ r ∈ m.rows, PyData.strOk r.1 = true) {j : Nat} {x dx : Addr} {l : Ln} {fs : List (Str × V)} (hx : o.lns[j]? = some x) (h : H x = some (.ins CL dx fs)) : OdAt2 K CL CO (upd H x (.ins CL dx (lnF l))) o (setLine m j l) es := by
  obtain ⟨a1, a2, a3, a4, b1, b2, b3, c1, c2, d1, e1⟩ := nd_of O
  have mx := List.mem_of_getElem? hx
  have t : TupK H (upd H x (.ins CL dx (lnF l))) := tupK_upd h no_ins
  have nx : ∀ {y : Addr}, y ∉ o.lns → y ≠ x := fun h e => h (by rw [e]; exact mx)
  obtain ⟨cs, c3, c4⟩ := O.hc
  obtain ⟨as, a5, a6⟩ := O.ha
  refine ⟨by rw [upd_ne (nx a4)]; exact O.hd, by rw [upd_ne (nx b3)]; exact O.hl, by rw [O.len]; exact (List.length_set ..).symm, fun i y l' hy hl => ?_, ⟨cs, by rw [upd_ne (nx c2)]; exact c3, flat_tupK t (rows_flat rw_) c4⟩, ⟨as, by rw [upd_ne (nx d1)]; exact a5, Paired.imp (fun _ _ h => h.tupK t) a6⟩, O.nd⟩
  have hl : (m.lines.set j l)[i]? = some l' := hl
  by_cases e : j = i
  · subst e
    rw [hx] at hy; cases hy
    have hj : j < m.lines.length := by rw [← O.len]; exact (List.getElem?_eq_some_iff.mp hx).1
    rw [List.getElem?_set_self hj] at hl; cases hl
    exact ⟨dx, upd_same⟩
  · rw [List.getElem?_set_ne e] at hl
    have ne : y ≠ x := fun z => by
      subst z
      obtain ⟨h1, h2⟩ := List.getElem?_eq_some_iff.mp hx
      obtain ⟨h3, h4⟩ := List.getElem?_eq_some_iff.mp hy
      have q1 := List.Nodup.idxOf_getElem e1 j h1
      have q2 := List.Nodup.idxOf_getElem e1 i h3
      rw [h2] at q1
      rw [h4] at q2
      exact e (q1.symm.trans q2)
    rw [upd_ne ne]
    exact O.ln i y l' hy hl
theorem OdAt2.setPaid (O : OdAt2 K CL CO H o m es) (rw_ : ∀ r ∈ m.rows, PyData.strOk r.1 = true) {n : Int} : OdAt2 K CL CO (upd H o.a (.ins CO o.dx (odF o n))) o { m with paid := n } es := by
  obtain ⟨a1, a2, a3, a4, _⟩ := nd_of O
  have t : TupK H (upd H o.a (.ins CO o.dx (odF o n))) := tupK_upd O.hd no_ins
  obtain ⟨cs, c3, c4⟩ := O.hc
  obtain ⟨as, a5, a6⟩ := O.ha
  exact ⟨upd_same, by rw [upd_ne a1.symm]; exact O.hl, O.len, fun i y l hy hl => by
    rw [upd_ne fun e => a4 (by rw [← e]; exact List.mem_of_getElem? hy)]
    exact O.ln i y l hy hl, ⟨cs, by rw [upd_ne a2.symm]; exact c3, flat_tupK t (rows_flat rw_) c4⟩, ⟨as, by rw [upd_ne a3.symm]; exact a5, Paired.imp (fun _ _ h => h.tupK t) a6⟩, O.nd⟩
theorem OdAt2.chg (O : OdAt2 K CL CO H o m es) (rw_ : ∀ r ∈ m.rows, PyData.strOk r.1 = true) {cs' : List V} {rs : List (Str × Int)} (h : ∀ H', TupK H H' → DpAll K H' cs' (rs.map rowD)) : OdAt2 K CL CO (upd H o.ch (.lst cs')) o { m with rows := rs } es := by
  obtain ⟨a1, a2, a3, a4, b1, b2, b3, c1, c2, d1, e1⟩ := nd_of O
  obtain ⟨cs, c3, c4⟩ := O.hc
  have t : TupK H (upd H o.ch (.lst cs')) := tupK_upd c3 no_lst
  obtain ⟨as, a5, a6⟩ := O.ha
  exact ⟨by rw [upd_ne a2]; exact O.hd, by rw [upd_ne b1]; exact O.hl, O.len, fun i y l hy hl => by
    rw [upd_ne fun e => c2 (by rw [← e]; exact List.mem_of_getElem? hy)]
    exact O.ln i y l hy hl, ⟨cs', upd_same, h _ t⟩, ⟨as, by rw [upd_ne c1.symm]; exact a5, Paired.imp (fun _ _ h => h.tupK t) a6⟩, O.nd⟩
theorem OdAt2.ahd (O : OdAt2 K CL CO H o m es) (rw_ : ∀ r ∈ m.rows, PyData.strOk r.1 = true) {as' : List V} {es' : List Ent} (h : ∀ H', TupK H H' → Paired (EntAt K H' o) as' es') : OdAt2 K CL CO (upd H o.ah (.lst as')) o m es' := by
  obtain ⟨a1, a2, a3, a4, b1, b2, b3, c1, c2, d1, e1⟩ := nd_of O
  obtain ⟨cs, c3, c4⟩ := O.hc
  obtain ⟨as, a5, a6⟩ := O.ha
  have t : TupK H (upd H o.ah (.lst as')) := tupK_upd a5 no_lst
  exact ⟨by rw [upd_ne a3]; exact O.hd, by rw [upd_ne b2]; exact O.hl, O.len, fun i y l hy hl => by
    rw [upd_ne fun e => d1 (by rw [← e]; exact List.mem_of_getElem? hy)]
    exact O.ln i y l hy hl, ⟨cs, by rw [upd_ne c1]; exact c3, flat_tupK t (rows_flat rw_) c4⟩, ⟨as', upd_same, h _ t⟩, O.nd⟩
theorem Keep.upd1 {F : Addr → Prop} {x : Addr} {u w : HO} (h : F x) (e : H x = some u) (n1 : ¬ TupO u) (n2 : ¬ TupO w) : Keep F H (upd H x w) := fun a o e2 => by
  by_cases z : a = x
  · subst z
    rw [e] at e2
    have e2 := Option.some.inj e2
    subst e2
    exact ⟨fun n => absurd h n, _, upd_same, fun z => z.elim (fun z => absurd z n1) fun z => absurd z n2⟩
  · rw [upd_ne z]
    exact ⟨fun _ => e2, _, e2, fun _ => rfl⟩
end
/-! ### methods of the text -/
structure MAt (K : PySem.W.Frag) (C : Addr) (m q : Str) (st : Stmt) (ps : List Str) : Prop where
  ex : ∃ f fd, Meth K C m f ∧ Fun K m q st f fd ∧ Binds K fd ps []
structure IAt (K : PySem.W.Frag) (C : Addr) (q : Str) (st : Stmt) (ps : List Str) : Prop where
  ex : ∃ f fd, Mk K C f ∧ Fun K "__init__" q st f fd ∧ Binds K fd ps []
theorem mAt_mk {K : PySem.W.Frag} {C : Addr} {m q : Str} {st : Stmt} {ps : List Str} {f : Addr} {oc kV doc pm cd ct : Value} {od an : Option Addr} {sl : Array (Option Value)}
    (a : PySem.W.findIn K (.ref C) m = some (some (.ref f))) (i : PySem.W.isFn K (.ref f) = true) (l : K.lookup f = some ⟨oc, od, .func (PySem.W.fnOf m q (defArgs st) (defBody st) (defScope st) .none kV doc pm an cd ct), sl⟩) (c : PySem.W.codeIn K cd q = true) (k : PySem.W.keepIn K (.ref f) = true)
    (h : ∀ (kV doc pm : Value) (an : Option Addr) (cdv ct : Value) (us : List Value), us.length = ps.length → bindArgs (PySem.W.fnOf m q (defArgs st) (defBody st) (defScope st) .none kV doc pm an cdv ct) ⟨us, []⟩ = pure (ps.zip us)) : MAt K C m q st ps :=
  have F := fun_mk (st := st) l c k
  ⟨f, _, ⟨a, i, k⟩, F, F.binds h⟩
theorem iAt_mk {K : PySem.W.Frag} {C : Addr} {q : Str} {st : Stmt} {ps : List Str} {f : Addr} {oc kV doc pm cd ct : Value} {od an : Option Addr} {sl : Array (Option Value)}
    (a : PySem.W.findIn K (.ref C) "__init__" = some (some (.ref f))) (i : PySem.W.isFn K (.ref f) = true) (l : K.lookup f = some ⟨oc, od, .func (PySem.W.fnOf "__init__" q (defArgs st) (defBody st) (defScope st) .none kV doc pm an cd ct), sl⟩) (c : PySem.W.codeIn K cd q = true) (k : PySem.W.keepIn K (.ref f) = true)
    (mk : PySem.W.makesIn K C = true) (kc : PySem.W.keepIn K (.ref C) = true)
    (h : ∀ (kV doc pm : Value) (an : Option Addr) (cdv ct : Value) (us : List Value), us.length = ps.length → bindArgs (PySem.W.fnOf "__init__" q (defArgs st) (defBody st) (defScope st) .none kV doc pm an cdv ct) ⟨us, []⟩ = pure (ps.zip us)) : IAt K C q st ps :=
  have F := fun_mk (st := st) l c k
  ⟨f, _, ⟨mk, a, i, kc⟩, F, F.binds h⟩
section
variable {P : Program} {w : World} {K : PySem.W.Frag} {mg : Str → Option Value} {base : Heap}
theorem mcal_of {C : Addr} {m q : Str} {st : Stmt} {N ps : List Str} {k : Nat} {sp : Sp} (c : Cls K C) (D : MAt K C m q st ps) (S : FnScope N ps (defScope st)) (len : ∀ vs H Q E, sp vs H Q E → vs.length = ps.length)
    (hbody : ∀ (f : Addr) (cdv : Value) (A : Around) (outer : List Env) (s : Shared) (H : Hp) (vs : List V) (Q : VK) (E : XK), Room k (A.deeper (envOfC q (defScope st) s.heap.objs.size f cdv)) → sp vs H Q E →
      ∃ t, PSs (cxOf CX0 P w K mg base N q (defScope st) f cdv A outer s H E).nox (defBody st) t ∧ t { nx := fun _ H' => Q .non H', rt := Q } (start N vs) H) : MCal P w K mg base CX0 (k + 1) C m ps sp := by
  obtain ⟨f, fd, M, F, b⟩ := D.ex
  exact ⟨c, f, fd, M, F.ok S len fun cdv A outer s H vs Q E hr h => hbody f cdv A outer s H vs Q E hr h, b⟩
theorem mcal_ofX {C : Addr} {m q : Str} {st : Stmt} {N ps : List Str} {k : Nat} {sp : Sp} (c : Cls K C) (D : MAt K C m q st ps) (S : FnScope N ps (defScope st)) (len : ∀ vs H Q E, sp vs H Q E → vs.length = ps.length)
    (hbody : ∀ (f : Addr) (cdv : Value) (A : Around) (outer : List Env) (s : Shared) (H : Hp) (vs : List V) (Q : VK) (E : XK), Room k (A.deeper (envOfC q (defScope st) s.heap.objs.size f cdv)) → sp vs H Q E →
      ∃ t, PSs (cxOf (L2.CX P w) P w K mg base N q (defScope st) f cdv A outer s H E) (defBody st) t ∧ t { nx := fun _ H' => Q .non H', rt := Q } (start N vs) H) : MCal P w K mg base (L2.CX P w) (k + 1) C m ps sp := by
  obtain ⟨f, fd, M, F, b⟩ := D.ex
  exact ⟨c, f, fd, M, F.okX S len fun cdv A outer s H vs Q E hr h => hbody f cdv A outer s H vs Q E hr h, b⟩
theorem mkc_of {C : Addr} {x q : Str} {st : Stmt} {N ps : List Str} {k : Nat} {sp : Sp} (g : mg x = some (.ref C)) (D : IAt K C q st ps) (S : FnScope N ps (defScope st)) (len : ∀ vs H Q E, sp vs H Q E → vs.length = ps.length)
    (hbody : ∀ (f : Addr) (cdv : Value) (A : Around) (outer : List Env) (s : Shared) (H : Hp) (vs : List V) (Q : VK) (E : XK), Room k (A.deeper (envOfC q (defScope st) s.heap.objs.size f cdv)) → sp vs H Q E →
      ∃ t, PSs (cxOf CX0 P w K mg base N q (defScope st) f cdv A outer s H E).nox (defBody st) t ∧ t { nx := fun _ H' => Q .non H', rt := Q } (start N vs) H) : MkC P w K mg base CX0 (k + 1) C x ps sp := by
  obtain ⟨f, fd, M, F, b⟩ := D.ex
  exact ⟨⟨f, fd, M, F.ok S len fun cdv A outer s H vs Q E hr h => hbody f cdv A outer s H vs Q E hr h, b⟩, g⟩
theorem cal_ofX {x : Str} {st : Stmt} {N ps : List Str} {k : Nat} {sp : Sp} (D : DefAt K mg x st ps) (S : FnScope N ps (defScope st)) (len : ∀ vs H Q E, sp vs H Q E → vs.length = ps.length)
    (hbody : ∀ (f : Addr) (cdv : Value) (A : Around) (outer : List Env) (s : Shared) (H : Hp) (vs : List V) (Q : VK) (E : XK), Room k (A.deeper (envOfC x (defScope st) s.heap.objs.size f cdv)) → sp vs H Q E →
      ∃ t, PSs (cxOf (L2.CX P w) P w K mg base N x (defScope st) f cdv A outer s H E) (defBody st) t ∧ t { nx := fun _ H' => Q .non H', rt := Q } (start N vs) H) : Cal P w K mg base (L2.CX P w) (k + 1) x ps sp := by
  obtain ⟨f, fd, F, hm, hb⟩ := D.ex
  exact ⟨f, fd, F.okX S len fun cdv A outer s H vs Q E hr h => hbody f cdv A outer s H vs Q E hr h, hm, F.kp, hb⟩
theorem MCal.bcal {k : Nat} {C : Addr} {m : Str} {ps : List Str} {sp : Sp} (c : MCal P w K mg base (L2.CX P w) k C m ps sp) (h : m ∈ bookMs) : BCal P w K mg base k C m ps sp := ⟨c.cls, c.ex, h⟩
theorem PF.cls {CL CO CB : Addr} (T : PF K CL CO CB) : Cls K CL ∧ Cls K CO ∧ Cls K CB := ⟨T.cL, T.cO, T.cB⟩
end
/-! ### constants of the text; a text gone through -/
theorem pe_gint {X : Cx} {x : Str} {n : Int} {pos : Pos} (h : ∃ t, X.mg x = some (.int n t)) (hg : Gl X x := by rfl) (hd : (x == ("__debug__" : Str)) = false := by decide) : PE X (.Name x pos) (tC (.int n)) := by
  obtain ⟨t, h⟩ := h
  exact pe_glob hg h ⟨t, rfl⟩ hd
structure Consts (mg : Str → Option Value) : Prop where
  k_MOST_LINES : ∃ t, mg "_MOST_LINES" = some (.int 20 t)
  k_MOST_LETTERS : ∃ t, mg "_MOST_LETTERS" = some (.int 12 t)
  k_MOST_PIECES : ∃ t, mg "_MOST_PIECES" = some (.int 1000000 t)
  k_MOST_CENTS : ∃ t, mg "_MOST_CENTS" = some (.int 1000000000 t)
  k_MOST_PACK : ∃ t, mg "_MOST_PACK" = some (.int 1000 t)
  k_MOST_ORDERS : ∃ t, mg "_MOST_ORDERS" = some (.int 40 t)
def deedsT : List PyData := [.tuple [.str "order", .int 2], .tuple [.str "deliver", .int 4], .tuple [.str "back", .int 4], .tuple [.str "swap", .int 4], .tuple [.str "credit", .int 4], .tuple [.str "pay", .int 3], .tuple [.str "refund", .int 3], .tuple [.str "move", .int 4]]
structure Tups (K : PySem.W.Frag) (mg : Str → Option Value) (aD aF : Addr) : Prop where
  gD : mg "DEEDS" = some (.ref aD)
  gF : mg "_OF_A_LINE" = some (.ref aF)
  dD : ∀ H, Dp K H (.ref aD) (.tuple deedsT)
  dF : ∀ H, SqT K H aF [.str "deliver", .str "back", .str "swap", .str "credit"]
theorem lt_sign {c d : Nat} : (([c] : List Nat) < [d]) ↔ c < d := by
  rw [List.cons_lt_cons_iff]
  constructor
  · rintro (h | ⟨_, h⟩)
    · exact h
    · exact absurd h (List.not_lt_nil _)
  · exact fun h => .inl h
theorem le_sign {c d : Nat} : (!decide (([c] : List Nat) < [d])) = decide (d ≤ c) := by
  by_cases h : d ≤ c
  · rw [decide_eq_true h, decide_eq_false fun z => by have := lt_sign.mp z; omega]; rfl
  · rw [decide_eq_false h, decide_eq_true (lt_sign.mpr (by omega))]; rfl
/-- [test for c in text] -/
theorem lcS_bool {te : TE} {σ : L2.St} {j : Nat} {x : Str} {D : Addr} {H1 : Hp} {Qd : Hp → Prop} (c : Nat → Bool) (hz : x.length ≤ 100000) (hD : H1 D = none)
    (turn : ∀ (k : Nat) (H : Hp) (R : VK), Same H1 H → R (.bl (c k)) H → te ((wipe σ [j]).set j (some (.str ⟨#[k]⟩))) H R)
    (fin : ∀ H', Same H1 H' → H' D = some (.lst ((x.cps.toList.map c).map V.bl)) → Qd H') :
    ∃ W : Nat → Nat → Hp → Prop, (∃ m, W 0 m (upd H1 D (.lst []))) ∧ ∀ i m H, W i m H →
      ((Its x).stop i H ∧ Qd H) ∨ ((Its x).go i H ∧ ∃ Nx : Hp → Prop, (∀ H', Nx H' → ∃ m', m' < m ∧ W (i + 1) m' H') ∧ ∀ v H', (Its x).yld i H v H' → gName j v (wipe σ [j]) H' fun σ2 H2 => wipe σ2 [j] = wipe σ [j] ∧ tYes σ2 H2 fun b H3 =>
        if b = true then te σ2 H3 fun y H4 => ∃ acc, H4 D = some (.lst acc) ∧ acc.length < sizeLine ∧ Nx (upd H4 D (.lst (acc ++ [y]))) else Nx H3) := by
  have hl := len_cps x
  have hc : x.cps.size = x.cps.toList.length := by simp
  refine ⟨fun i m H => m = x.cps.toList.length - i ∧ i ≤ x.cps.toList.length ∧ Same H1 H ∧ H D = some (.lst (((x.cps.toList.take i).map c).map V.bl)), ⟨_, rfl, Nat.zero_le _, same_new hD, upd_same⟩, ?_⟩
  rintro i m H ⟨rfl, hi, s, hd⟩
  by_cases hlt : i < x.cps.toList.length
  · refine .inr ⟨by show i < x.cps.size; omega, fun H' => Same H1 H' ∧ H' D = some (.lst (((x.cps.toList.take (i + 1)).map c).map V.bl)), fun H' p' => ⟨x.cps.toList.length - (i + 1), by omega, rfl, hlt, p'⟩, fun v H' y => ?_⟩
    obtain ⟨rfl, k, hk, rfl⟩ := y
    have e2 : x.cps.toList[i]? = some k := by simpa using hk
    refine ⟨wipe1, turn k _ _ s ⟨_, hd, Evl.sz_lt ?_, same_mut s hD, ?_⟩⟩
    · rw [List.length_map, List.length_map, List.length_take]; omega
    · rw [upd_same, take_succ' e2, List.map_append, List.map_append]
      rfl
  · have e : i = x.cps.toList.length := by omega
    subst e
    rw [List.take_length] at hd
    exact .inl ⟨by show x.cps.size ≤ _; omega, fin H s hd⟩
theorem words_ne : ("order" : Str) ≠ "deliver" ∧ ("order" : Str) ≠ "back" ∧ ("order" : Str) ≠ "swap" ∧ ("order" : Str) ≠ "credit" ∧ ("order" : Str) ≠ "pay" ∧ ("order" : Str) ≠ "refund" ∧ ("order" : Str) ≠ "move" ∧ ("deliver" : Str) ≠ "order" ∧ ("deliver" : Str) ≠ "back" ∧ ("deliver" : Str) ≠ "swap" ∧ ("deliver" : Str) ≠ "credit" ∧ ("deliver" : Str) ≠ "pay" ∧ ("deliver" : Str) ≠ "refund" ∧ ("deliver" : Str) ≠ "move" ∧ ("back" : Str) ≠ "order" ∧ ("back" : Str) ≠ "deliver" ∧ ("back" : Str) ≠ "swap" ∧ ("back" : Str) ≠ "credit" ∧ ("back" : Str) ≠ "pay" ∧ ("back" : Str) ≠ "refund" ∧ ("back" : Str) ≠ "move" ∧ ("swap" : Str) ≠ "order" ∧ ("swap" : Str) ≠ "deliver" ∧ ("swap" : Str) ≠ "back" ∧ ("swap" : Str) ≠ "credit" ∧ ("swap" : Str) ≠ "pay" ∧ ("swap" : Str) ≠ "refund" ∧ ("swap" : Str) ≠ "move" ∧ ("credit" : Str) ≠ "order" ∧ ("credit" : Str) ≠ "deliver" ∧ ("credit" : Str) ≠ "back" ∧ ("credit" : Str) ≠ "swap" ∧ ("credit" : Str) ≠ "pay" ∧ ("credit" : Str) ≠ "refund" ∧ ("credit" : Str) ≠ "move" ∧ ("pay" : Str) ≠ "order" ∧ ("pay" : Str) ≠ "deliver" ∧ ("pay" : Str) ≠ "back" ∧ ("pay" : Str) ≠ "swap" ∧ ("pay" : Str) ≠ "credit" ∧ ("pay" : Str) ≠ "refund" ∧ ("pay" : Str) ≠ "move" ∧ ("refund" : Str) ≠ "order" ∧ ("refund" : Str) ≠ "deliver" ∧ ("refund" : Str) ≠ "back" ∧ ("refund" : Str) ≠ "swap" ∧ ("refund" : Str) ≠ "credit" ∧ ("refund" : Str) ≠ "pay" ∧ ("refund" : Str) ≠ "move" ∧ ("move" : Str) ≠ "order" ∧ ("move" : Str) ≠ "deliver" ∧ ("move" : Str) ≠ "back" ∧ ("move" : Str) ≠ "swap" ∧ ("move" : Str) ≠ "credit" ∧ ("move" : Str) ≠ "pay" ∧ ("move" : Str) ≠ "refund" := by
  repeat' apply And.intro
  all_goals decide +kernel
theorem eqv_pair {x y : Str} {i j : Int} : PyData.eqv (.tuple [.str x, .int i]) (.tuple [.str y, .int j]) = (decide (x = y) && decide (i = j)) := by
  simp only [PyData.eqv, PyData.eqvAll]
  by_cases h : x = y
  · subst h
    by_cases g : i = j
    · subst g; simp
    · simp [g]
  · simp [h]
theorem deeds_any {x : Str} {n : Nat} : (deedsT.any fun z => PyData.eqv z (.tuple [.str x, .int (n : Int)])) = decide (partsOf x = some n) := by
  unfold deedsT
  simp only [List.any_cons, List.any_nil, eqv_pair]
  have W := words_ne
  have c2 : decide ((2 : Int) = (n : Int)) = decide (some 2 = some n) := decide_eq_decide.mpr ⟨fun h => congrArg some (by omega), fun h => by have := Option.some.inj h; omega⟩
  have c3 : decide ((3 : Int) = (n : Int)) = decide (some 3 = some n) := decide_eq_decide.mpr ⟨fun h => congrArg some (by omega), fun h => by have := Option.some.inj h; omega⟩
  have c4 : decide ((4 : Int) = (n : Int)) = decide (some 4 = some n) := decide_eq_decide.mpr ⟨fun h => congrArg some (by omega), fun h => by have := Option.some.inj h; omega⟩
  rw [c2, c3, c4]
  unfold partsOf
  by_cases h0 : x = "order"
  · subst h0
    simp [W]
  by_cases h1 : x = "deliver"
  · subst h1
    simp [W]
  by_cases h2 : x = "back"
  · subst h2
    simp [W]
  by_cases h3 : x = "swap"
  · subst h3
    simp [W]
  by_cases h4 : x = "credit"
  · subst h4
    simp [W]
  by_cases h5 : x = "pay"
  · subst h5
    simp [W]
  by_cases h6 : x = "refund"
  · subst h6
    simp [W]
  by_cases h7 : x = "move"
  · subst h7
    simp [W]
  have e : ∀ y : Str, x ≠ y → decide (y = x) = false := fun y h => decide_eq_false fun z => h z.symm
  rw [e _ h0, e _ h1, e _ h2, e _ h3, e _ h4, e _ h5, e _ h6, e _ h7]
  rw [if_neg h0, if_neg (by simp only [not_or]; exact ⟨h5, h6⟩), if_neg (by simp only [not_or]; exact ⟨h1, h2, h3, h4, h7⟩)]
  rfl
/-! ### what the top has written, gathered -/
def clOf (a : List Addr) : Str → Addr := fun n => ((errNames.zip a).lookup n).getD 0
theorem exm_mk {K : PySem.W.Frag} {C D : Addr} {r : Bool} (b : PySem.W.subIn K (.ref D) (.type "BaseException") = some true) (i : PySem.W.isClsIn K D = true) (t : PySem.W.typeIn K (.ref D) = some (.type "type")) (s : PySem.W.subIn K (.ref C) (.ref D) = some r) : PySem.W.exmOne K (.ref C) (.ref D) = some r := by
  unfold PySem.W.isClsIn at i
  have e : PySem.W.kitCls K (.ref C) (.ref D) = if ((PySem.W.clsIn K D).isSome && PySem.W.typeIn K (.ref D) == some (.type "type")) = true then PySem.W.subIn K (.ref C) (.ref D) else none := rfl
  unfold PySem.W.exmOne
  rw [b, e, i, t]
  exact s
theorem sz8 {n : Nat} (h : decide (n ≤ 100000) = true := by rfl) : n ≤ sizeLine := Evl.sz_of (of_decide_eq_true h)
theorem pair_dp {K : PySem.W.Frag} {a : Addr} {o : Option Addr} {x : Str} {i : Int} {u v : Tok} {n : Nat} {sl : Array (Option Value)} {H : Hp} (l : K.lookup a = some ⟨.type "tuple", o, .seq #[.str x u, .int i v] n, sl⟩) : Dp K H (.ref a) (.tuple [.str x, .int i]) :=
  .tup (xs := [.str x, .int i]) (.inr ⟨_, _, _, l, rfl, rfl, sz8, .cons ⟨_, rfl⟩ (.cons ⟨_, rfl⟩ .nil)⟩) (.cons (.str _) (.cons (.int _) .nil))
theorem deeds_dp {K : PySem.W.Frag} {a a0 a1 a2 a3 a4 a5 a6 a7 : Addr} {o o0 o1 o2 o3 o4 o5 o6 o7 : Option Addr} {n n0 n1 n2 n3 n4 n5 n6 n7 : Nat} {s s0 s1 s2 s3 s4 s5 s6 s7 : Array (Option Value)} {u0 v0 u1 v1 u2 v2 u3 v3 u4 v4 u5 v5 u6 v6 u7 v7 : Tok} {H : Hp}
    (l : K.lookup a = some ⟨.type "tuple", o, .seq #[.ref a0, .ref a1, .ref a2, .ref a3, .ref a4, .ref a5, .ref a6, .ref a7] n, s⟩)
    (l0 : K.lookup a0 = some ⟨.type "tuple", o0, .seq #[.str "order" u0, .int 2 v0] n0, s0⟩) (l1 : K.lookup a1 = some ⟨.type "tuple", o1, .seq #[.str "deliver" u1, .int 4 v1] n1, s1⟩) (l2 : K.lookup a2 = some ⟨.type "tuple", o2, .seq #[.str "back" u2, .int 4 v2] n2, s2⟩)
    (l3 : K.lookup a3 = some ⟨.type "tuple", o3, .seq #[.str "swap" u3, .int 4 v3] n3, s3⟩) (l4 : K.lookup a4 = some ⟨.type "tuple", o4, .seq #[.str "credit" u4, .int 4 v4] n4, s4⟩) (l5 : K.lookup a5 = some ⟨.type "tuple", o5, .seq #[.str "pay" u5, .int 3 v5] n5, s5⟩)
    (l6 : K.lookup a6 = some ⟨.type "tuple", o6, .seq #[.str "refund" u6, .int 3 v6] n6, s6⟩) (l7 : K.lookup a7 = some ⟨.type "tuple", o7, .seq #[.str "move" u7, .int 4 v7] n7, s7⟩) : Dp K H (.ref a) (.tuple deedsT) :=
  .tup (xs := [.ref a0, .ref a1, .ref a2, .ref a3, .ref a4, .ref a5, .ref a6, .ref a7]) (.inr ⟨_, _, _, l, rfl, rfl, sz8, .cons rfl (.cons rfl (.cons rfl (.cons rfl (.cons rfl (.cons rfl (.cons rfl (.cons rfl .nil)))))))⟩)
    (.cons (pair_dp l0) (.cons (pair_dp l1) (.cons (pair_dp l2) (.cons (pair_dp l3) (.cons (pair_dp l4) (.cons (pair_dp l5) (.cons (pair_dp l6) (.cons (pair_dp l7) .nil))))))))
theorem BCal.mono {P : Program} {w : World} {K : PySem.W.Frag} {mg : Str → Option Value} {base : Heap} {j k : Nat} {C : Addr} {m : Str} {ps : List Str} {sp : Sp} (c : BCal P w K mg base j C m ps sp) (h : j ≤ k) : BCal P w K mg base k C m ps sp := by
  obtain ⟨f, fd, hm, F, r⟩ := c.ex
  exact ⟨c.cls, ⟨f, fd, hm, F.mono h, r⟩, c.mem⟩
theorem BMk.mono {P : Program} {w : World} {K : PySem.W.Frag} {mg : Str → Option Value} {base : Heap} {j k : Nat} {R : BRep} (c : BMk P w K mg base j R) (h : j ≤ k) : BMk P w K mg base k R := by
  obtain ⟨f, fd, ps, hm, F, r⟩ := c.ex
  exact ⟨⟨f, fd, ps, hm, F.mono h, r⟩, c.g⟩
end Of

set_option Elab.async false
set_option linter.all false
set_option maxRecDepth 100000
set_option maxHeartbeats 4000000
/-! A list comprehension whose item is a call that may raise: what it raises leaves the comprehension, and is ours. -/
namespace Of
open PySem PySem.Spec PyProof.Rows L2
/-- how the block of a comprehension may end: as the library says where it is well, else its names go and the error goes on -/
def EndC (M : Model) (A : Around) (E : Value → Shared → Prop) (use : Option (Value → Sem Unit)) (Q : Value → Shared → Prop) (acc : Value) (ce : Env) : Result → Shared → Prop
  | .ok f, z => compPost M A E use Q acc ce.locals (.ok f) z
  | .error x, z => ∃ m, z.heap.Ns ce.locals m ∧ ∀ g, Heap.SameBut ce.locals z.heap g → wpAny M A (passOn "comprehension.variables-let-go" x ce : Sem Value) (fun _ _ => False) E { z with heap := g }
section
variable {M : Model} {A : Around} {E : Value → Shared → Prop} {s : Shared} {env : Env}
theorem names_back {cenv : Env} {scope : Scope} {l : List (Str × NameKind)} (hn : ∀ x ∈ scope.names, x.2 = .local → scope.names.lookup x.1 = some .local) (hl : ∀ x ∈ l, x ∈ scope.names) :
    ∀ x ∈ l, x.2 = .local → Env.kindOf { cenv with scope := relabel scope env } x.1 = some .local := fun x hx e => lookup_relabel_local (hn x (hl x hx) e)
theorem comp_out {e : Expr} {scope : Scope} {pos : Pos} {mk first : Sem Value} {g : Comprehension} {gs : List Comprehension} {cl : List (Str × Addr)} {use : Option (Value → Sem Unit)} {Q : Value → Shared → Prop}
    (c1 : clausesOf e = g :: gs) (c2 : ∀ x, foldedSetIterable g.iter env x = pure x) (c3 : closureFor scope env = pure cl) (c4 : scope.kind = .function) (c5 : ∀ x ∈ scope.names, x.2 = .local → scope.names.lookup x.1 = some .local)
    (h : wpAny M A first (fun x z1 => wpAny M A (pyIter x) (fun it z2 => wpAny M A mk (fun acc z3 => wpAny M A (newFunctionEnv scope env.globals cl [] env.qual none .none (some env))
      (fun ce z4 => codeAny M A (.compStart e 0 it acc { ce with scope := relabel scope env }) (EndC M A E use Q acc { ce with scope := relabel scope env }) z4) E z3) E z2) E z1) E s) :
    wpAny M A (comprehension e scope env pos mk false first use) Q E s := by
  have up : ∀ {α : Type} {t : Sem α} {Q1 Q2 : α → Shared → Prop} {z : Shared}, wpAny M A t Q1 E z → (∀ a y, Q1 a y → Q2 a y) → wpAny M A t Q2 E z := fun q w => wpAny_mono q w fun _ _ y => y
  unfold comprehension
  rw [c3, c1]
  refine wpAny_bind (up h fun x z1 h1 => wpAny_bind (wpAny_standAt (wpAny_bind (wpAny_of_eq (c2 x) (wpAny_bind (wpAny_holding (up h1 fun it z2 h2 => ?_)))))))
  refine wpAny_standIf (wpAny_bind (up h2 fun acc z3 h3 => wpAny_bind (wpAny_pure (wpAny_bind (up h3 fun ce z4 h4 => ?_)))))
  dsimp only
  have sub : ∀ x ∈ (scope.names.filter fun x => (x.2 == .local || x.2 == .cell) && x.1 != (".0" : Str)).reverse, x ∈ scope.names := fun x hx => (List.mem_filter.mp (List.mem_reverse.mp hx)).1
  have sub2 : ∀ x ∈ (scope.names.filter fun x => (x.2 == .local || x.2 == .cell) && x.1 != (".0" : Str)).reverse.drop 1 ++ (scope.names.filter fun x => (x.2 == .local || x.2 == .cell) && x.1 != (".0" : Str)).reverse.take 1, x ∈ scope.names :=
    fun x hx => sub x ((List.mem_append.mp hx).elim List.mem_of_mem_drop List.mem_of_mem_take)
  refine wpAny_holding (wpAny_bind (wpAny_attempt (wpAny_holding (wpAny_run (codeAny_mono h4 fun r z hr => ?_)))))
  have go : ∀ {z : Shared} {m : Str → Option Value} {Q' : Unit → Shared → Prop} {F : List (Str × NameKind) → List Value} (l : List (Str × NameKind)), (∀ x ∈ l, x ∈ scope.names) → z.heap.Ns ce.locals m → (∀ g, Heap.SameBut ce.locals z.heap g → Q' () { z with heap := g }) →
      wpAny M A (comprehension.letGo { ce with scope := relabel scope env } F l) Q' E z := fun l hl hn k => wpAny_comp_letGo (cenv := { ce with scope := relabel scope env }) c4 l _ _ (names_back c5 hl) hn fun g _ _ sb => k g sb
  cases r with
  | error x =>
    obtain ⟨m, hn, k⟩ : EndC M A E use Q acc { ce with scope := relabel scope env } (.error x) z := by cases use <;> exact hr
    exact wpAny_bind (wpAny_holding (go _ sub hn fun g sb => wpAny_mono (k g sb) (fun _ _ f => f.elim) fun _ _ y => y))
  | ok f =>
    cases use with
    | none =>
      obtain ⟨m, hn, k⟩ := hr
      exact wpAny_bind (wpAny_holding (go _ sub hn fun g sb => wpAny_pure (k g sb)))
    | some u =>
      refine wpAny_bind (wpAny_rule (wpAny_bind (wpAny_holding (up hr fun _ z5 ⟨m, hn, k⟩ => ?_))))
      exact wpAny_bind (go _ sub2 hn fun g sb => wpAny_pure (k g sb))
end

theorem note_frame {e : Value} {a b : Env} (h : a.frame = b.frame) : noteFrame e a = noteFrame e b := by unfold noteFrame PySem.frameOf; rw [h]
/-- what a call let out flies -/
theorem fly_of {B : Heap} {l : List Env} {a L : Addr} {Z : Obj → Prop} {h : Heap} {B2 : Heap} {l2 : List Env} {Z2 : Obj → Prop} (k : Sky B l a Z L h) (f : HandSPX.FlyingZ B2 l2 a Z2 h) : HandSPX.FlyingZ B l a Z h := by
  obtain ⟨_, _, _, oe, vs, T, oT, ts, he, _, hd, h1, _, _, hT, hdT, h3⟩ := f
  rcases k with ⟨_, _, _, oe', vs', he', _, hd', h1'⟩ | k | ⟨_, _, _, oe', vs', T', oT', ts', he', _, hd', h1', _, _, hT', hdT', h3'⟩
  · rw [he] at he'; cases he'
    rw [hd] at hd'; cases hd'
    rw [h1] at h1'; cases h1'
  · exact k
  · rw [he] at he'; cases he'
    rw [hd] at hd'; cases hd'
    rw [h1] at h1'; cases h1'
    rw [hT] at hT'; cases hT'
    rw [hdT] at hdT'; cases hdT'
    rw [h3] at h3'
    exact absurd (Option.some.inj h3') (by simp [rawInt])
/-- a def's call within the block let an exception out -/
def Let (Xb : Cx) (E : XK) : Value → Shared → Prop := fun u z => ∃ (pins : List (Addr × Obj)) (σ : L2.St) (H : Hp) (y : Shared), Inv Xb pins σ H y ∧ L2.CX Xb.prog Xb.w Xb.stack H y E u z
theorem Let.passes {Xb : Cx} {E : XK} : Passes (L2.CX Xb.prog Xb.w) (Xb.wish (Let Xb E)) E := fun pins σ H s _ _ I c => ⟨pins, σ, H, s, I.unwish, c⟩
section
variable {X : Cx} {pins : List (Addr × Obj)} {σ : L2.St} {W : WX} {E : XK}
theorem lets_out {s3 : Shared} {H3 : Hp} {scope : Scope} {ce : Env} {fp : List Addr} {use : Option (Value → Sem Unit)} {Qf : Value → Shared → Prop} {acc u : Value} {z : Shared} (hs : X.stack = X.env :: X.outer) (hf : X.env.frame = some X.env.locals) (tk : Takes X W) (hW : ∀ cls d H', E cls d H' → W cls d σ H')
    (I3 : Inv X pins σ H3 s3) (f3 : ∀ b ∈ fp, FpOk X pins H3 b) (cL : ce.locals = s3.heap.objs.size) (cF : ce.frame = X.env.frame) (h : Let (X.blk s3 H3 scope ce fp) E u z) :
    notedBy (model X.prog X.w) X.A ce (fun e y => EndC (model X.prog X.w) X.A X.xe use Qf acc ce (.error e) y) u z := by
  obtain ⟨pins1, σ1, H1, y1, I1, c⟩ := h
  obtain ⟨a, B, sI, pins2, σ2, H2, cls, d, rfl, J, nb, upz, sky, na, os, ag, w⟩ := XE.of_call (X := X.blk s3 H3 scope ce fp) (W := fun cls d _ H => E cls d H) I1 (fun _ _ _ h => h) c
  obtain ⟨a2, B2, _, cls2, d2, e2, fl2, _⟩ := c
  cases e2
  have fl : HandSPX.FlyingZ B (X.env :: X.outer) a (Zc cls d) z.heap := by rw [← hs]; exact fly_of sky fl2
  have hfr : X.A.frames = some (X.env :: X.outer) := by rw [I3.ok.frames, hs]
  show wpAny _ _ (noteFrame (.ref a) ce) _ _ _
  rw [note_frame cF]
  refine HandSPX.looks_onZ Zc.steady hfr hf fl fun h1 held up1 => ?_
  obtain ⟨m, hn, _⟩ := J.loc
  have hn : sI.heap.Ns ce.locals m := hn
  have nC : H2 s3.heap.objs.size = none := by rw [← cL]; exact J.free
  have K : Inv X pins σ H2 sI := I3.call' (ch := fp) J.os J.base J.hok J.bare fun b hb => ⟨(f3 b hb).2.2.2.1, (f3 b hb).2.1, (f3 b hb).2.2.2.2.1, (f3 b hb).2.2.2.2.2⟩
  have fC := I3.fpOk (Nat.le_refl _) nC
  rw [← cL] at fC
  obtain ⟨f0, f1, f2, f4, f5, f6⟩ := fC
  have up := upz.trans up1
  refine ⟨m, up.ns hn, fun g sb => ?_⟩
  -- the block's names are no part of the ground any more
  obtain ⟨oC, _, _, hoC, _⟩ := id hn
  have stC : ce.locals ∉ frs X.stack := fun hm => by
    have q := K.stack.mem hm
    have z := K.stkSub _ hm
    rcases List.mem_cons.mp z with e | e
    · exact f1 e
    · exact f2 e
  have bC := nb _ _ hoC stC
  obtain ⟨k1, k2, k3, oe, vs, T, oT, ts, he, hz, hd, h1v, hnT, hTe, hT, hdT, h3v⟩ := held
  have nin : ∀ {b : Addr}, B.get? b = none → b ≠ ce.locals := fun e q => by rw [q, bC] at e; cases e
  have hid : ∀ {b : Addr}, B.get? b = none → (PySem.W.hideAll B [ce.locals]).get? b = none := fun {b} e => by
    cases q : (PySem.W.hideAll B [ce.locals]).get? b with
    | none => rfl
    | some o => rw [PySem.W.of_hideAll _ q] at e; cases e
  have held2 : HandSPX.HeldZ (PySem.W.hideAll B [ce.locals]) (X.env :: X.outer) a (Zc cls d) X.env.locals g := by
    refine ⟨fun b o e => ?_, hid k2, ?_, oe, vs, T, oT, ts, (sb.2 _ (nin k2)).trans he, hz, hd, h1v, hid hnT, hTe, (sb.2 _ (nin hnT)).trans hT, hdT, h3v⟩
    · have nb' : b ≠ ce.locals := fun q => by rw [q, PySem.W.hideAll_none _ (by simp)] at e; cases e
      exact (sb.2 b nb').trans (k1 b o (PySem.W.of_hideAll _ e))
    · have go : ∀ l : List Env, h1.FunFrames B l → g.FunFrames (PySem.W.hideAll B [ce.locals]) l := fun l => by
        induction l with
        | nil => exact fun _ => trivial
        | cons e r ih => exact fun ⟨q1, ⟨L, o, q2, q3, q4, q5⟩, q6⟩ => ⟨q1, ⟨L, o, q2, hid q3, (sb.2 L (nin q3)).trans q4, q5⟩, ih q6⟩
      exact go _ k3
  have hne : ∀ {b : Addr} {o : Obj}, (PySem.W.hideAll sI.heap [ce.locals]).get? b = some o → b ≠ ce.locals ∧ sI.heap.get? b = some o := fun {b o} e =>
    ⟨(fun q => by rw [q, PySem.W.hideAll_none _ (by simp)] at e; cases e), PySem.W.of_hideAll _ e⟩
  have K2 : Inv X pins σ H2 { sI with heap := PySem.W.hideAll sI.heap [ce.locals] } := K.turned (t' := sI.toks) (fun b o hb e => PySem.W.hideAll_get _ e (by simpa using hb)) f0 f1 f4 f5 f6
  unfold PySem.passOn
  have heg : g.get? a = some oe := (sb.2 _ (nin k2)).trans he
  refine wpAny_bind (wpAny_field heg hd h1v ?_)
  rw [if_neg (show ¬ ((Value.ref T == Value.none) = true) from by simp)]
  have fin : wpAny (model X.prog X.w) X.A (setFlight (.ref a) ce.frame) (fun _ s4 => wpAny (model X.prog X.w) X.A (throw (.ref a) : Sem Value) (fun _ _ => False) X.xe s4) X.xe { z with heap := g } := by
    rw [cF, hf]
    refine HandSPX.setFlight_onZ held2 fun h4 held4 up4 => wpAny_throw (tk _ _ ?_)
    refine ⟨a, PySem.W.hideAll B [ce.locals], { sI with heap := PySem.W.hideAll sI.heap [ce.locals] }, pins, σ, H2, cls, d, rfl, K2, fun b o e hb => ?_, fun b o e hnf => ?_, .inr (.inr (by rw [hs]; exact held4)), na, os, ag, hW _ _ _ w⟩
    · obtain ⟨n1, e1⟩ := hne e
      exact PySem.W.hideAll_get _ (nb b o e1 hb) (by simpa using n1)
    · obtain ⟨n1, e1⟩ := hne e
      obtain ⟨sl, q⟩ := up b o e1 hnf
      obtain ⟨sl2, q2⟩ := up4 b _ ((sb.2 b n1).trans q) hnf
      exact ⟨sl2, q2⟩
  first
    | exact wpAny_bind (wpAny_pure (wpAny_bind fin))
    | exact wpAny_bind fin

/-- the block, what leaves its item told by E -/
abbrev Cx.item (X : Cx) (E : XK) (s : Shared) (H : Hp) (scope : Scope) (cl : List (Str × Addr)) (C : Addr) (fp : List Addr) : Cx := (X.blk s H scope (compEnvC scope cl C X.env) fp).wish (Let (X.blk s H scope (compEnvC scope cl C X.env) fp) E)
theorem lcX_core {s : Shared} {H : Hp} {Q : VK} {elt tg iter : Expr} {ifs : List Expr} {scope : Scope} {own : List (Str × Nat)} {pos pos' : Pos} {wi : TI} {g : TG} {tt : TT} {te : TE} {use : Option (Value → Sem Unit)} {Qf : Value → Shared → Prop}
    (hs : X.stack = X.env :: X.outer) (hf : X.env.frame = some X.env.locals) (hc : X.calm = true) (hN : X.N.Nodup) (tk : Takes X W) (hW : ∀ cls d σ H', E cls d H' → W cls d σ H') (I : Inv X pins σ H s) (hi : PI X tg iter wi) (ok : BlkOk X.N X.env.scope scope own)
    (hg : ∀ (s : Shared) (H : Hp) (C : Addr) (cl : List (Str × Addr)) (fp : List Addr), PG (X.blk s H scope (compEnvC scope cl C X.env) fp) tg g)
    (ht : ∀ (s : Shared) (H : Hp) (C : Addr) (cl : List (Str × Addr)) (fp : List Addr), PTs (X.blk s H scope (compEnvC scope cl C X.env) fp) ifs tt)
    (he : ∀ (s : Shared) (H : Hp) (C : Addr) (cl : List (Str × Addr)) (fp : List Addr), Passes (L2.CX X.prog X.w) (Cx.item X E s H scope cl C fp) E → PE (Cx.item X E s H scope cl C fp) elt te) (h1 : ∀ x, foldedSetIterable iter X.env x = pure x)
    (h : tLc wi g tt te (own.map (·.2)) σ H Q)
    (fin : ∀ D (ce : Env) z m H', Inv X pins σ H' z → Q (.ref D) H' → z.heap.Ns ce.locals m → FpOk X pins H' ce.locals → EndC (model X.prog X.w) X.A X.xe use Qf (.ref D) ce (.ok .next) z) :
    wpAny (model X.prog X.w) X.A (comprehension (.ListComp elt [⟨tg, iter, ifs, 0⟩] scope pos) scope X.env pos' (newList []) false (eval iter X.env) use) Qf X.xe s := by
  have free : ∀ y ∈ scope.names, y.2 = .free → ∃ c, X.env.cells.lookup y.1 = some c := fun y hy e => I.ok.has _ ((ok.free y hy e).imp id id)
  refine comp_out (use := use) rfl h1 (closure_ok free) ok.kind (fun y hy e => by rw [ok.uniq y hy, e]) (thn (hi.run pins s σ H _ I h) fun xv z1 hx => thn hx fun itv z2 h2 => ?_)
  obtain ⟨it, fp, tn, J, H2, rfl, I2, T, st2, f2, q⟩ := h2
  refine wpAny_newObj_type (newEnv_comp ?_) (Nat.zero_le _)
  obtain ⟨D, hD⟩ : ∃ D, D = z2.heap.objs.size := ⟨_, rfl⟩
  rw [← hD]
  obtain ⟨V, ⟨m0, v0⟩, turn⟩ := q D (I2.hok.fresh (Nat.le_of_eq hD.symm))
  obtain ⟨z3, h3⟩ : ∃ z3 : Shared, z3 = { z2 with heap := z2.heap.push { cls := .type "list", data := .seq ([] : List Value).toArray } } := ⟨_, rfl⟩
  rw [← h3]
  have e3 : z3.heap = z2.heap.push { cls := .type "list", data := .seq ([] : List Value).toArray } := by rw [h3]
  have I3 : Inv X pins σ (upd H2 D (.lst [])) z3 := by
    rw [h3, hD]
    exact I2.laid (t' := z2.toks) (fun b o e => Heap.get?_push_of_some _ e) (Nat.le_refl _) ⟨Nat.zero_le _, [], 0, .nil, Heap.get?_push_size _ rfl⟩
  have lt : ∀ b ∈ fp, b < z2.heap.objs.size := fun b hb => (T.obj _ _ st2 b hb).elim fun o r => Heap.lt_size r.1
  have f3 : ∀ b ∈ fp, FpOk X pins (upd H2 D (.lst [])) b ∧ b < z3.heap.objs.size := fun b hb => ⟨⟨by rw [upd_ne (by rw [hD]; exact Nat.ne_of_lt (lt b hb))]; exact (f2 b hb).1, (f2 b hb).2⟩, by rw [e3, Heap.size_push]; exact Nat.lt_succ_of_lt (lt b hb)⟩
  have st3 : tn 0 z3.heap := T.keep _ _ _ st2 fun b _ o e => by rw [e3]; exact Heap.get?_push_of_some _ e
  have I4 := block_start I3 ok hN f3
  have A1 := hg z3 (upd H2 D (.lst [])) z3.heap.objs.size (cellsFrom (z3.heap.objs.size + 1) scope.names (cloFrom X.env.cells scope.names [])) fp
  have A2 := ht z3 (upd H2 D (.lst [])) z3.heap.objs.size (cellsFrom (z3.heap.objs.size + 1) scope.names (cloFrom X.env.cells scope.names [])) fp
  have A3 := he z3 (upd H2 D (.lst [])) z3.heap.objs.size (cellsFrom (z3.heap.objs.size + 1) scope.names (cloFrom X.env.cells scope.names [])) fp Let.passes
  show codeAny _ _ (.compStart _ 0 (.ref it) (.ref D) (compEnvC scope (cellsFrom (z3.heap.objs.size + 1) scope.names (cloFrom X.env.cells scope.names [])) z3.heap.objs.size X.env))
    (EndC (model X.prog X.w) X.A X.xe use Qf (.ref D) (compEnvC scope (cellsFrom (z3.heap.objs.size + 1) scope.names (cloFrom X.env.cells scope.names [])) z3.heap.objs.size X.env)) { z3 with heap := pushCells (z3.heap.push { cls := .type "dict", data := .dict #[] }) scope.names }
  unfold Cx.item at A3
  obtain ⟨ce, hce⟩ : ∃ ce, ce = compEnvC scope (cellsFrom (z3.heap.objs.size + 1) scope.names (cloFrom X.env.cells scope.names [])) z3.heap.objs.size X.env := ⟨_, rfl⟩
  rw [← hce] at I4 A1 A2 A3 ⊢
  have cL : ce.locals = z3.heap.objs.size := by rw [hce]; rfl
  have cF : ce.frame = X.env.frame := by rw [hce]; rfl
  obtain ⟨H3, hH3⟩ : ∃ H3, H3 = upd H2 D (.lst []) := ⟨_, rfl⟩
  rw [← hH3] at I3 I4 A1 A2 A3 v0 f3
  obtain ⟨z4, h4⟩ : ∃ z4 : Shared, z4 = { z3 with heap := pushCells (z3.heap.push { cls := .type "dict", data := .dict #[] }) scope.names } := ⟨_, rfl⟩
  rw [← h4] at I4 ⊢
  have st4 : tn 0 z4.heap := T.keep _ _ _ st3 fun b _ o e => by rw [h4]; exact pushCells_keeps _ _ _ _ (Heap.get?_push_of_some _ e)
  have stat : ∀ {σ' : L2.St} {H' : Hp} {s' : Shared}, Inv (X.blk z3 H3 scope ce fp) [] σ' H' s' → (∀ b ∈ fp, H' b = none) → ∀ b ∈ fp, FpOk (X.blk z3 H3 scope ce fp) [] H' b := fun {σ' H' s'} J n b hb =>
    ⟨n b hb, (J.ok.exf b hb).1, J.ok.exfs b hb, .inl hb, fun x c e => (J.ok.exf b hb).2 x c e, fun p hp => by cases hp⟩
  have loop : codeAny (model X.prog X.w) X.A (.compLoop (.ListComp elt [⟨tg, iter, ifs, 0⟩] scope pos) 0 (.ref it) (.ref D) ce) (EndC (model X.prog X.w) X.A X.xe use Qf (.ref D) ce) z4 := by
    refine compLoop_any (fun n y => ∃ i H', Inv (X.blk z3 H3 scope ce fp) [] (wipe σ (own.map (·.2))) H' y ∧ tn i y.heap ∧ (∀ b ∈ fp, H' b = none) ∧ V i n H') ?_ m0 ⟨0, H3, I4, st4, fun b hb => (f3 b hb).1.1, v0⟩
    rintro n z5 ⟨i, H5, I5, st5, n5, v5⟩
    rcases turn i n H5 v5 with ⟨stop, qq⟩ | ⟨more, Nx, hNx, step⟩
    · refine thnF (T.done (X.blk z3 H3 scope ce fp) rfl rfl rfl hc i [] z5 _ H5 (fun _ _ => False) I5 (stat I5 n5) st5 stop) fun r z6 ⟨hr, I6⟩ => ?_
      subst hr
      have I7 : Inv X pins σ H5 z6 := I3.call' (ch := fp) I6.os I6.base I6.hok I6.bare fun b hb => ⟨(f3 b hb).1.2.2.2.1, (f3 b hb).1.2.1, (f3 b hb).1.2.2.2.2.1, (f3 b hb).1.2.2.2.2.2⟩
      obtain ⟨m, hn, _⟩ := I6.loc
      have nC : H5 z3.heap.objs.size = none := by rw [← cL]; exact I6.free
      have fC := I3.fpOk (Nat.le_refl _) nC
      rw [← cL] at fC
      exact fin D ce z6 m H5 I7 qq hn fC
    · refine thnF (T.item (X.blk z3 H3 scope ce fp) rfl rfl rfl hc i [] z5 _ H5 (fun _ _ => False) I5 (stat I5 n5) st5 more) fun r z6 ⟨u, hr, h6⟩ => ?_
      subst hr
      refine thnF h6 fun _ z7 ⟨x, H7, I7, r7, y7, st7, n7⟩ => ?_
      refine thnF (A1.run _ z7 _ H7 x u _ (I7.pinned (stat I7 n7) (T.obj _ _ st7)) r7 (step x H7 y7)) fun _ z8 ⟨σ8, H8, I8, w8, q8⟩ => thnF (A2.run _ z8 σ8 H8 _ I8 q8) fun b z9 ⟨H9, I9, q9⟩ => ?_
      have next : ∀ {y : Shared} {H' : Hp}, Inv (X.blk z3 H3 scope ce fp) ([] ++ pinsAt fp z7.heap) σ8 H' y → Nx H' → ∃ m, m < n ∧ ∃ i H', Inv (X.blk z3 H3 scope ce fp) [] (wipe σ (own.map (·.2))) H' y ∧ tn i y.heap ∧ (∀ b ∈ fp, H' b = none) ∧ V i m H' := fun {y H'} J nx => by
        obtain ⟨m', lm, v'⟩ := hNx H' nx
        have pin : ∀ b ∈ fp, ∀ o, z7.heap.get? b = some o → y.heap.get? b = some o ∧ H' b = none := fun b hb o e => ⟨(J.pin (b, o) (List.mem_append_right _ (List.mem_append_right _ (mem_pinsAt hb e)))).1, (J.pin (b, o) (List.mem_append_right _ (List.mem_append_right _ (mem_pinsAt hb e)))).2.1⟩
        refine ⟨m', lm, i + 1, H', (J.unpinned (pins := [])).weak (by rw [← w8, wipe_length]) (fun j v e => by rw [← w8] at e; exact (wipe_some e).1), T.keep _ _ _ st7 fun b hb o e => (pin b hb o e).1, fun b hb => ?_, v'⟩
        obtain ⟨o, e, _⟩ := T.obj _ _ st7 b hb
        exact (pin b hb o e).2
      cases b with
      | false =>
        simp only [Bool.false_eq_true, if_false] at q9 ⊢
        exact next I9 q9
      | true =>
        simp only [if_true] at q9 ⊢
        refine wpAny_mono (A3.run _ z9 σ8 H9 _ (I9.wish _) q9) (fun v z10 ⟨yv, H10, I10, r10, acc, hD10, hz10, nx⟩ => ?_) fun x y l => lets_out hs hf tk (fun cls d H' => hW cls d σ H') I3 (fun b hb => (f3 b hb).1) cL cF l
        exact app_ok (X := X.blk z3 H3 scope ce fp) I10.unwish hD10 hz10 r10 fun z11 I11 => next I11 nx
  exact codeAny_compStart_list loop (T.self X.A 0 _ _ _ st4 loop)
theorem pe_lcX {elt tg iter : Expr} {ifs : List Expr} {scope : Scope} {own : List (Str × Nat)} {pos : Pos} {wi : TI} {g : TG} {tt : TT} {te : TE} (hs : X.stack = X.env :: X.outer) (hf : X.env.frame = some X.env.locals) (hc : X.calm = true) (hN : X.N.Nodup) (tk : Takes X W) (hW : ∀ cls d σ H', E cls d H' → W cls d σ H')
    (hi : PI X tg iter wi) (ok : BlkOk X.N X.env.scope scope own) (hg : ∀ (s : Shared) (H : Hp) (C : Addr) (cl : List (Str × Addr)) (fp : List Addr), PG (X.blk s H scope (compEnvC scope cl C X.env) fp) tg g)
    (ht : ∀ (s : Shared) (H : Hp) (C : Addr) (cl : List (Str × Addr)) (fp : List Addr), PTs (X.blk s H scope (compEnvC scope cl C X.env) fp) ifs tt)
    (he : ∀ (s : Shared) (H : Hp) (C : Addr) (cl : List (Str × Addr)) (fp : List Addr), Passes (L2.CX X.prog X.w) (Cx.item X E s H scope cl C fp) E → PE (Cx.item X E s H scope cl C fp) elt te) (h1 : ∀ x, foldedSetIterable iter X.env x = pure x := by intro _; rfl) :
    PE X (.ListComp elt [⟨tg, iter, ifs, 0⟩] scope pos) (tLc wi g tt te (own.map (·.2))) := by
  refine ⟨fun pins s σ H Q I h => ?_⟩
  rw [eval_ListComp]
  refine lcX_core hs hf hc hN tk hW I hi ok hg ht he h1 h fun D ce z m H' J q hn ⟨f0, f1, f2, f3, f4, f5⟩ => ⟨m, hn, fun g sb => ?_⟩
  exact ⟨.ref D, H', J.turned (t' := z.toks) (fun b o hb e => (sb.2 b hb).trans e) f0 f1 f3 f4 f5, rfl, q⟩

/-- y = [..], y a local -/
theorem ps_setLcX {i : Nat} {y : Str} {py : Pos} {elt tg iter : Expr} {ifs : List Expr} {scope : Scope} {own : List (Str × Nat)} {pos spos : Pos} {wi : TI} {g : TG} {tt : TT} {te : TE} (hs : X.stack = X.env :: X.outer) (hf : X.env.frame = some X.env.locals) (hc : X.calm = true) (hN : X.N.Nodup) (tk : Takes X W) (hW : ∀ cls d σ H', E cls d H' → W cls d σ H')
    (hy : X.N[i]? = some y) (hyl : X.env.scope.names.lookup y = some .local) (sw : swapsWith (.ListComp elt [⟨tg, iter, ifs, 0⟩] scope pos) (some (.Name y py)) spos.line X.env = pure true)
    (hi : PI X tg iter wi) (ok : BlkOk X.N X.env.scope scope own) (hg : ∀ (s : Shared) (H : Hp) (C : Addr) (cl : List (Str × Addr)) (fp : List Addr), PG (X.blk s H scope (compEnvC scope cl C X.env) fp) tg g)
    (ht : ∀ (s : Shared) (H : Hp) (C : Addr) (cl : List (Str × Addr)) (fp : List Addr), PTs (X.blk s H scope (compEnvC scope cl C X.env) fp) ifs tt)
    (he : ∀ (s : Shared) (H : Hp) (C : Addr) (cl : List (Str × Addr)) (fp : List Addr), Passes (L2.CX X.prog X.w) (Cx.item X E s H scope cl C fp) E → PE (Cx.item X E s H scope cl C fp) elt te) (h1 : ∀ x, foldedSetIterable iter X.env x = pure x := by intro _; rfl) :
    PS X (.Assign [.Name y py] (.ListComp elt [⟨tg, iter, ifs, 0⟩] scope pos) spos) (tAsg (tLc wi g tt te (own.map (·.2))) (gName i)) := by
  refine ⟨fun pins s σ H D I h => ?_⟩
  rw [exec_Assign_Name_used _ _ _ _ sw]
  have h' : tLc wi g tt te (own.map (·.2)) σ H (fun x H1 => gName i x σ H1 D.nx) := h
  refine wpAny_bind (wpAny_standAt (wpAny_bind (wpAny_bind (thn (lcX_core (Qf := fun _ z => SP X pins D .next z) hs hf hc hN tk hW I hi ok hg ht he h1 h' fun L ce z m H' J q hn ⟨f0, f1, f2, f3, f4, f5⟩ => ?_) fun _ z q => wpAny_pure (wpAny_pure q)))))
  show wpAny _ _ (assign (.Name y py) X.env (.ref L)) _ _ _
  refine wpAny_assign_Name (store_ok2 (v := V.ref L) J hN hy (.inl hyl) rfl (fun z2 I2 ⟨a, sb, ha⟩ => ?_) (.inr hyl))
  have ne : ce.locals ≠ a := ha.elim (fun e => by rw [e]; exact f1) fun e q => f4 y a e q.symm
  exact ⟨m, hn.sameBut sb ne, fun g sb3 => ⟨_, H', I2.turned (t' := z2.toks) (fun b o hb e => (sb3.2 b hb).trans e) f0 f1 f3 f4 f5, q⟩⟩
end
/-- a def that raises, called within a try -/
theorem pe_calS {X : Cx} {CX : CXT} {x : Str} {k : Nat} {ps : List Str} {sp : Sp} {ES : L2.St → XK} {e : Expr} {es : List Expr} {t : TA} {p pos : Pos} (c : Cal X.prog X.w X.K X.mg X.base CX k x ps sp) (hr : Room k X.A) (hx : ∀ σ, PassesAt CX X σ (ES σ)) (ha : PA X (e :: es) t) (hg : Gl X x := by rfl) (hdb : (x == ("__debug__" : Str)) = false := by decide)
    (he : starEach (e :: es) X.env = (false, eval e X.env) :: starEach es X.env := by rfl) (hpl : (backTo pos (starEach es X.env)).any (·.1) = false := by rfl) :
    PE X (.Call (.Name x p) (e :: es) [] pos) (tCallS sp ES t) := by
  obtain ⟨f, fd, F, hm, hk, hb⟩ := c.ex
  exact pe_callS F hr hg hm hk hb hx ha hdb he hpl
/-- isinstance of the error that a suite holds, whatever its class -/
def rIsE2 (K : PySem.W.Frag) (cls : Value) (d : Option Addr) (a : Addr) : List V → Hp → VK → Prop := fun xs H Q => ∃ D : Addr, cls = .ref D ∧ d = none ∧ ExcC K D ∧ rIsE K D a xs H Q
theorem call_isE2 {X : Cx} {a : Addr} {cls : Value} {d : Option Addr} {oe : Obj} {pn : List (Addr × Obj)} (hz : Zc cls d oe) (hf : ∃ vs, oe.data = .fields vs) : CallR (X.suite a ((a, oe) :: pn)) (.builtin "isinstance") (rIsE2 X.K cls d a) := by
  intro pins s σ H xs us Q I r h
  obtain ⟨D, rfl, rfl, C, h⟩ := h
  exact call_isE C hz hf pins s σ H xs us Q I r h
end Of

set_option Elab.async false
set_option linter.all false
set_option maxRecDepth 100000
set_option maxHeartbeats 4000000
/-! Deeds as texts: written, and read back; what comprehensions of texts make. -/
namespace Of
open PySem PySem.Spec PyProof.Rows L2 NumText TL
/-! ### all, or none -/
def seqO {α β : Type} (f : α → Option β) : List α → Option (List β)
  | [] => some []
  | x :: r => match f x, seqO f r with
    | some y, some ys => some (y :: ys)
    | _, _ => none
section
variable {α β : Type} {f : α → Option β}
theorem seqO_bad : ∀ {l : List α} {x : α}, x ∈ l → f x = none → seqO f l = none
  | y :: r, x, h, e => by
    unfold seqO
    rcases List.mem_cons.mp h with rfl | h
    · rw [e]
    · rw [seqO_bad h e]
      cases f y <;> rfl
theorem seqO_snoc : ∀ {l : List α} {ys : List β} {x : α} {y : β}, seqO f l = some ys → f x = some y → seqO f (l ++ [x]) = some (ys ++ [y])
  | [], ys, x, y, h, e => by
    cases h
    show (match f x, some [] with | some y, some ys => some (y :: ys) | _, _ => none) = _
    rw [e]
    rfl
  | z :: r, ys, x, y, h, e => by
    unfold seqO at h
    cases hz : f z with
    | none => rw [hz] at h; cases h
    | some v =>
      cases hr : seqO f r with
      | none => rw [hz, hr] at h; cases h
      | some vs =>
        rw [hz, hr] at h
        cases h
        show (match f z, seqO f (r ++ [x]) with | some y, some ys => some (y :: ys) | _, _ => none) = _
        rw [hz, seqO_snoc hr e]
        rfl
theorem seqO_len : ∀ {l : List α} {ys : List β}, seqO f l = some ys → ys.length = l.length
  | [], ys, h => by cases h; rfl
  | z :: r, ys, h => by
    unfold seqO at h
    cases hz : f z with
    | none => rw [hz] at h; cases h
    | some v =>
      cases hr : seqO f r with
      | none => rw [hz, hr] at h; cases h
      | some vs =>
        rw [hz, hr] at h
        cases h
        rw [List.length_cons, List.length_cons, seqO_len hr]
theorem seqO_map {g : β → α} : ∀ {ys : List β}, (∀ y ∈ ys, f (g y) = some y) → seqO f (ys.map g) = some ys
  | [], _ => rfl
  | y :: r, h => by
    show (match f (g y), seqO f (r.map g) with | some y, some ys => some (y :: ys) | _, _ => none) = _
    rw [h y (.head _), seqO_map fun z hz => h z (.tail _ hz)]
theorem seqO_all : ∀ {l : List α} {ys : List β}, seqO f l = some ys → ∀ x ∈ l, ∃ y, f x = some y
  | z :: r, ys, h, x, hx => by
    cases hz : f x with
    | some y => exact ⟨y, rfl⟩
    | none => rw [seqO_bad hx hz] at h; cases h
end
/-! ### numbers, lines and deeds in texts -/
def numB (z : Str) : Bool := decide (z = "0") || (decide (1 ≤ z.length) && decide (z.length ≤ 30) && !decide (z.cps.toList.head? = some 48) && z.cps.toList.all fun c => decide (48 ≤ c) && decide (c ≤ 57))
def numOf (z : Str) : Option Int := if numB z = true then some (digitsVal z.cps.toList : Nat) else none
def line4 : List Str → Option LineT
  | [a, b, c, d] => if itemOk a = true then (match numOf b, numOf c, numOf d with | some p, some q, some r => some ⟨a, p, q, r⟩ | _, _, _ => none) else none
  | _ => none
def lineOf (z : Str) : Option LineT := line4 (Txt.split z " ")
inductive TD where
  | ord (ls : List LineT)
  | num (w : Str) (ns : List Int)
def TD.d : TD → PyData
  | .ord ls => .tuple [.str "order", .list (ls.map lineD)]
  | .num w ns => .tuple (.str w :: ns.map .int)
def deedOf (z : Str) : Option TD :=
  if (Txt.partition z " ").1 = "order" then (seqO lineOf (Txt.split (Txt.partition z " ").2.2 ", ")).map .ord
  else if partsOf (Txt.partition z " ").1 = some (Txt.split z " ").length then (seqO numOf (Txt.split z " ").tail).map (.num (Txt.partition z " ").1) else none
def numT (n : Int) : Str := Str.ofString (toString n)
def lineT (t : LineT) : Str := Txt.join " " [t.item, numT t.pieces, numT t.cents, numT t.pack]
def textOf : TD → Str
  | .ord ls => "order " ++ Txt.join ", " (ls.map lineT)
  | .num w ns => Txt.join " " (w :: ns.map numT)
theorem cps_num {n : Nat} : (numT (n : Int)).cps.toList = numL n := tl_num n
theorem num_nat {n : Int} (h0 : 0 ≤ n) : ∃ k : Nat, n = (k : Int) := ⟨n.toNat, by omega⟩
theorem numT_len {n : Int} (h0 : 0 ≤ n) (h1 : n < 10 ^ 30) : (numT n).length ≤ 30 := toString_length_le h0 (by decide) h1
theorem digits_all {l : List Nat} (h : AllDigits l) : (l.all fun c => decide (48 ≤ c) && decide (c ≤ 57)) = true := by
  rw [List.all_eq_true]
  intro c hc
  obtain ⟨a, b⟩ := h c hc
  rw [decide_eq_true a, decide_eq_true b]
  rfl
theorem numL_head : ∀ n : Nat, 0 < n → (numL n).head? ≠ some 48 := fun n => by
  induction n using Nat.strongRecOn with
  | _ n ih =>
    intro h0
    by_cases h : n < 10
    · rw [numL_lt h]
      simp only [List.head?_cons, ne_eq, Option.some.injEq]
      omega
    · rw [numL_step (by omega), List.head?_append]
      have := ih (n / 10) (by omega) (by omega)
      cases e : (numL (n / 10)).head? with
      | none => exact absurd (List.head?_eq_none_iff.mp e) (numL_ne _)
      | some c => rw [e] at this; exact this
theorem num_back {n : Int} (h0 : 0 ≤ n) (h1 : n < 10 ^ 30) : numOf (numT n) = some n := by
  have hl := numT_len h0 h1
  obtain ⟨k, rfl⟩ := num_nat h0
  have e := cps_num (n := k)
  unfold numOf
  rw [if_pos, e, numL_val]
  unfold numB
  by_cases hk : k = 0
  · subst hk
    rw [show decide (numT ((0 : Nat) : Int) = "0") = true from by decide +kernel]
    rfl
  · have hp : 0 < (numL k).length := List.length_pos_iff.mpr (numL_ne k)
    rw [decide_eq_true hl, e, digits_all (numL_digits k), decide_eq_false (numL_head k (by omega)), decide_eq_true (show 1 ≤ (numT (k : Int)).length by rw [len_cps, e]; omega), Bool.or_eq_true]
    exact .inr rfl
theorem num_free {n : Int} {s : Nat} (h0 : 0 ≤ n) (h : s < 48 ∨ 57 < s) : s ∉ (numT n).cps.toList := by
  obtain ⟨k, rfl⟩ := num_nat h0
  rw [cps_num]
  exact numL_free h
theorem item_free {z : Str} {s : Nat} (h : itemOk z = true) (hs : s < 97 ∨ 122 < s) : s ∉ z.cps.toList := fun hm => by
  unfold itemOk at h
  rw [Bool.and_eq_true, List.all_eq_true] at h
  have := h.2 s hm
  rw [Bool.and_eq_true, decide_eq_true_eq, decide_eq_true_eq] at this
  omega
/-- numbers that are written with thirty figures at most -/
def Fig (n : Int) : Prop := 0 ≤ n ∧ n < 10 ^ 30
structure LineT.Wr (t : LineT) : Prop where
  i : itemOk t.item = true
  p : Fig t.pieces
  c : Fig t.cents
  k : Fig t.pack
theorem blank_cps : TL.tl (" " : Str) = 32 :: [] := by decide +kernel
theorem comma_cps : TL.tl (", " : Str) = 44 :: [32] := by decide +kernel
theorem parts_free {s : Nat} {t : LineT} (W : t.Wr) (hs : s < 48 ∨ 122 < s) : ∀ p ∈ [t.item, numT t.pieces, numT t.cents, numT t.pack], s ∉ TL.tl p := by
  intro p hp
  simp only [List.mem_cons, List.not_mem_nil, or_false] at hp
  rcases hp with rfl | rfl | rfl | rfl
  · exact item_free W.i (by omega)
  · exact num_free W.p.1 (by omega)
  · exact num_free W.c.1 (by omega)
  · exact num_free W.k.1 (by omega)
theorem line_back {t : LineT} (W : t.Wr) : lineOf (lineT t) = some t := by
  unfold lineOf lineT
  rw [split_join blank_cps (by decide +kernel) (by simp) (parts_free W (by omega))]
  unfold line4
  dsimp only
  rw [if_pos W.i, num_back W.p.1 W.p.2, num_back W.c.1 W.c.2, num_back W.k.1 W.k.2]
theorem joinL_free {s : Nat} {S : List Nat} (hS : s ∉ S) : ∀ {ps : List (List Nat)}, (∀ p ∈ ps, s ∉ p) → s ∉ joinL S ps
  | [], _ => by unfold joinL; simp
  | [p], h => by unfold joinL; exact h p (.head _)
  | p :: q :: r, h => by
    unfold joinL
    rw [List.mem_append, List.mem_append]
    rintro (z | z | z)
    · exact h p (.head _) z
    · exact hS z
    · exact joinL_free hS (fun x hx => h x (.tail _ hx)) z
theorem join_free {s : Nat} {y : Str} (hS : s ∉ TL.tl y) {ps : List Str} (h : ∀ p ∈ ps, s ∉ TL.tl p) : s ∉ TL.tl (Txt.join y ps) := by
  rw [TL.join_eq, tl_join]
  refine joinL_free hS fun p hp => ?_
  obtain ⟨q, hq, rfl⟩ := List.mem_map.mp hp
  exact h q hq
theorem line_free {s : Nat} {t : LineT} (W : t.Wr) (hs : s < 48 ∨ 122 < s) (h32 : s ≠ 32) : s ∉ TL.tl (lineT t) := join_free (by rw [blank_cps]; simpa using h32) (parts_free W hs)
/-- a deed that is written -/
def TD.Wr : TD → Prop
  | .ord ls => ls ≠ [] ∧ ls.length ≤ 100 ∧ ∀ t ∈ ls, t.Wr
  | .num w ns => w ≠ "order" ∧ partsOf w = some (ns.length + 1) ∧ ∀ n ∈ ns, Fig n
theorem parts_word {w : Str} {k : Nat} (h : partsOf w = some k) : w = "order" ∨ w = "pay" ∨ w = "refund" ∨ w = "deliver" ∨ w = "back" ∨ w = "swap" ∨ w = "credit" ∨ w = "move" := by
  unfold partsOf at h
  by_cases h1 : w = "order"
  · exact .inl h1
  · rw [if_neg h1] at h
    by_cases h2 : w = "pay" ∨ w = "refund"
    · rcases h2 with h2 | h2
      · exact .inr (.inl h2)
      · exact .inr (.inr (.inl h2))
    · rw [if_neg h2] at h
      by_cases h3 : w = "deliver" ∨ w = "back" ∨ w = "swap" ∨ w = "credit" ∨ w = "move"
      · exact .inr (.inr (.inr h3))
      · rw [if_neg h3] at h; cases h
theorem word_free {w : Str} {k : Nat} (h : partsOf w = some k) : 32 ∉ TL.tl w := by
  rcases parts_word h with rfl | rfl | rfl | rfl | rfl | rfl | rfl | rfl <;> decide +kernel
theorem join_cons {y a b : Str} {r : List Str} : Txt.join y (a :: b :: r) = a ++ y ++ Txt.join y (b :: r) := str_ext (by
  rw [join_cons2, cps_app, cps_app])
theorem str_app3 {a b c : Str} : a ++ b ++ c = a ++ (b ++ c) := str_ext (by simp only [cps_app, List.append_assoc])
theorem deed_back {d : TD} (W : d.Wr) : deedOf (textOf d) = some d := by
  cases d with
  | ord ls =>
    obtain ⟨h0, _, h⟩ := W
    unfold deedOf textOf
    have e : Txt.partition ("order " ++ Txt.join ", " (ls.map lineT)) " " = (("order" : Str), (" " : Str), Txt.join ", " (ls.map lineT)) := by
      rw [show ("order " : Str) = "order" ++ " " from by decide +kernel]
      exact partition_app blank_cps (by decide +kernel)
    rw [e]
    dsimp only
    rw [if_pos rfl, split_join comma_cps (by decide +kernel) (by simpa using h0) (fun p hp => by
      obtain ⟨t, ht, rfl⟩ := List.mem_map.mp hp
      exact line_free (h t ht) (by omega) (by omega)), seqO_map fun t ht => line_back (h t ht)]
    rfl
  | num w ns =>
    obtain ⟨h0, h1, h⟩ := W
    cases ns with
    | nil =>
      have no : ∀ w : Str, (w = "order" ∨ w = "pay" ∨ w = "refund" ∨ w = "deliver" ∨ w = "back" ∨ w = "swap" ∨ w = "credit" ∨ w = "move") → partsOf w ≠ some 1 := by
        rintro w (rfl | rfl | rfl | rfl | rfl | rfl | rfl | rfl) <;> decide +kernel
      exact absurd h1 (no w (parts_word h1))
    | cons n r =>
      unfold deedOf textOf
      have e : Txt.partition (Txt.join " " (w :: (n :: r).map numT)) " " = (w, (" " : Str), Txt.join " " ((n :: r).map numT)) := by
        rw [List.map_cons, join_cons]
        exact partition_app blank_cps (word_free h1)
      have e2 : Txt.split (Txt.join " " (w :: (n :: r).map numT)) " " = w :: (n :: r).map numT := split_join blank_cps (by decide +kernel) (by simp) (fun p hp => by
        rcases List.mem_cons.mp hp with rfl | hp
        · exact word_free h1
        · obtain ⟨m, hm, rfl⟩ := List.mem_map.mp hp
          exact num_free (h m hm).1 (by omega))
      rw [e, e2]
      dsimp only
      rw [if_neg h0, if_pos (by rw [h1, List.length_cons, List.length_cons, List.length_map, List.length_cons]), List.tail_cons, seqO_map fun m hm => num_back (h m hm).1 (h m hm).2]
      rfl
/-! ### how long they are -/
theorem join_len (y : Str) : ∀ ps : List Str, (Txt.join y ps).length ≤ (ps.map (·.length)).sum + ps.length * y.length
  | [] => by rw [join_nil]; exact Nat.zero_le _
  | [p] => by
    rw [join_one]
    simp only [List.map_cons, List.map_nil, List.sum_cons, List.sum_nil]
    omega
  | p :: q :: r => by
    have ih := join_len y (q :: r)
    rw [join_cons, len_cps, cps_app, cps_app, List.length_append, List.length_append, ← len_cps, ← len_cps, ← len_cps, List.map_cons, List.sum_cons, List.length_cons, Nat.add_mul, Nat.one_mul]
    omega
theorem sum_le {k : Nat} : ∀ {ns : List Nat}, (∀ n ∈ ns, n ≤ k) → ns.sum ≤ ns.length * k
  | [], _ => Nat.zero_le _
  | n :: r, h => by
    have := h n (.head _)
    have := sum_le fun m hm => h m (.tail _ hm)
    rw [List.sum_cons, List.length_cons, Nat.add_mul, Nat.one_mul]
    omega
theorem item_len {z : Str} (h : itemOk z = true) : z.length ≤ 12 := by
  unfold itemOk at h
  rw [Bool.and_eq_true, Bool.and_eq_true, decide_eq_true_eq, decide_eq_true_eq] at h
  exact h.1.2
theorem parts_len {t : LineT} (W : t.Wr) : ∀ p ∈ [t.item, numT t.pieces, numT t.cents, numT t.pack], p.length ≤ 30 := by
  intro p hp
  simp only [List.mem_cons, List.not_mem_nil, or_false] at hp
  rcases hp with rfl | rfl | rfl | rfl
  · have := item_len W.i; omega
  · exact numT_len W.p.1 W.p.2
  · exact numT_len W.c.1 W.c.2
  · exact numT_len W.k.1 W.k.2
theorem lineT_len {t : LineT} (W : t.Wr) : (lineT t).length ≤ 124 := by
  have h := join_len " " [t.item, numT t.pieces, numT t.cents, numT t.pack]
  have := sum_le (k := 30) (ns := ([t.item, numT t.pieces, numT t.cents, numT t.pack] : List Str).map (·.length)) (fun n hn => by
    obtain ⟨p, hp, rfl⟩ := List.mem_map.mp hn
    exact parts_len W p hp)
  rw [show ((" " : Str)).length = 1 from by decide +kernel] at h
  simp only [List.length_map, List.length_cons, List.length_nil] at h this
  unfold lineT
  omega
theorem log2_fig {n : Int} (h : Fig n) : n.natAbs.log2 < 1920 := by
  obtain ⟨k, rfl⟩ := num_nat h.1
  have h2 := h.2
  by_cases e : k = 0
  · subst e; decide
  · rw [Int.natAbs_natCast, Nat.log2_lt e]
    have : k < 10 ^ 30 := by omega
    exact Nat.lt_of_lt_of_le this (by decide +kernel)
/-! ### rules -/
theorem kc_str {X : Cx} : CallR X (.type "str") (fun xs H Q => (∃ i, xs = [.int i] ∧ i.natAbs.log2 < 1920 ∧ Q (.str (numT i)) H) ∨ ∃ a, xs = [.str a] ∧ Q (.str a) H) := by
  intro pins s σ H xs us Q I r h
  rcases h with h | h
  · exact call_str_int pins s σ H xs us Q I r h
  · exact SkE.call_str_str pins s σ H xs us Q I r h
section
variable {K : PySem.W.Frag} {a D : Addr} {xs zs : List V} {fp : Addr → Prop}
/-- [e for x in a tuple], the items plain values -/
theorem lcP_tup {te : TE} {σ : L2.St} {j : Nat} {H1 : Hp} {Qd : Hp → Prop} (hl : xs.length = zs.length) (hz : zs.length ≤ 100000) (hS : SqT K H1 a xs) (hD : H1 D = none)
    (turn : ∀ (i : Nat) (x z : V) (H : Hp) (R : VK), xs[i]? = some x → zs[i]? = some z → Same H1 H → (∀ H', Same H H' → R z H') → te ((wipe σ [j]).set j (some x)) H R)
    (fin : ∀ H', Same H1 H' → H' D = some (.lst zs) → Qd H') :
    ∃ W : Nat → Nat → Hp → Prop, (∃ m, W 0 m (upd H1 D (.lst []))) ∧ ∀ i m H, W i m H →
      ((Itt K a).stop i H ∧ Qd H) ∨ ((Itt K a).go i H ∧ ∃ Nx : Hp → Prop, (∀ H', Nx H' → ∃ m', m' < m ∧ W (i + 1) m' H') ∧ ∀ x H', (Itt K a).yld i H x H' → gName j x (wipe σ [j]) H' fun σ2 H2 => wipe σ2 [j] = wipe σ [j] ∧ tYes σ2 H2 fun b H3 =>
        if b = true then te σ2 H3 fun y H4 => ∃ acc, H4 D = some (.lst acc) ∧ acc.length < sizeLine ∧ Nx (upd H4 D (.lst (acc ++ [y]))) else Nx H3) := by
  refine lc_tup (K := K) (a := a) (xs := xs) (fun i H => Same H1 H ∧ H D = some (.lst (zs.take i))) ⟨same_new hD, upd_same⟩ (fun i H _ ⟨s, _⟩ => same_t s hS) ?_ ?_
  · rintro i x H hx ⟨s, hd⟩
    have hi : i < zs.length := by
      have := (List.getElem?_eq_some_iff.mp hx).1
      omega
    refine ⟨wipe1, turn i x zs[i] H _ hx (List.getElem?_eq_getElem hi) s fun H4 s4 => ⟨_, s4 _ _ hd, Evl.sz_lt (by rw [List.length_take]; omega), same_mut (s.trans s4) hD, ?_⟩⟩
    rw [upd_same, take_succ' (List.getElem?_eq_getElem hi)]
  · rintro H ⟨s, hd⟩
    rw [hl, List.take_length] at hd
    exact fin H s hd
/-- [e for x in a list], the items plain values -/
theorem lcP_list {te : TE} {σ : L2.St} {j : Nat} {H1 : Hp} {Qd : Hp → Prop} (hl : xs.length = zs.length) (hz : zs.length ≤ 100000) (hS : SqL K H1 a xs) (hD : H1 D = none)
    (turn : ∀ (i : Nat) (x z : V) (H : Hp) (R : VK), xs[i]? = some x → zs[i]? = some z → Same H1 H → (∀ H', Same H H' → R z H') → te ((wipe σ [j]).set j (some x)) H R)
    (fin : ∀ H', Same H1 H' → H' D = some (.lst zs) → Qd H') :
    ∃ W : Nat → Nat → Hp → Prop, (∃ m, W 0 m (upd H1 D (.lst []))) ∧ ∀ i m H, W i m H →
      ((Itl K a).stop i H ∧ Qd H) ∨ ((Itl K a).go i H ∧ ∃ Nx : Hp → Prop, (∀ H', Nx H' → ∃ m', m' < m ∧ W (i + 1) m' H') ∧ ∀ x H', (Itl K a).yld i H x H' → gName j x (wipe σ [j]) H' fun σ2 H2 => wipe σ2 [j] = wipe σ [j] ∧ tYes σ2 H2 fun b H3 =>
        if b = true then te σ2 H3 fun y H4 => ∃ acc, H4 D = some (.lst acc) ∧ acc.length < sizeLine ∧ Nx (upd H4 D (.lst (acc ++ [y]))) else Nx H3) := by
  refine lc_list (K := K) (a := a) (xs := xs) (fun i H => Same H1 H ∧ H D = some (.lst (zs.take i))) ⟨same_new hD, upd_same⟩ (fun i H _ ⟨s, _⟩ => same_l s hS) ?_ ?_
  · rintro i x H hx ⟨s, hd⟩
    have hi : i < zs.length := by
      have := (List.getElem?_eq_some_iff.mp hx).1
      omega
    refine ⟨wipe1, turn i x zs[i] H _ hx (List.getElem?_eq_getElem hi) s fun H4 s4 => ⟨_, s4 _ _ hd, Evl.sz_lt (by rw [List.length_take]; omega), same_mut (s.trans s4) hD, ?_⟩⟩
    rw [upd_same, take_succ' (List.getElem?_eq_getElem hi)]
  · rintro H ⟨s, hd⟩
    rw [hl, List.take_length] at hd
    exact fin H s hd
/-- .. over range(n) -/
theorem lcP_range {te : TE} {σ : L2.St} {j : Nat} {H1 : Hp} {Qd : Hp → Prop} {n : Nat} (hl : n = zs.length) (hz : zs.length ≤ 100000) (hD : H1 D = none)
    (turn : ∀ (i : Nat) (z : V) (H : Hp) (R : VK), i < n → zs[i]? = some z → Same H1 H → (∀ H', Same H H' → R z H') → te ((wipe σ [j]).set j (some (.int (0 + (i : Int))))) H R)
    (fin : ∀ H', Same H1 H' → H' D = some (.lst zs) → Qd H') :
    ∃ W : Nat → Nat → Hp → Prop, (∃ m, W 0 m (upd H1 D (.lst []))) ∧ ∀ i m H, W i m H →
      ((Itr 0 n).stop i H ∧ Qd H) ∨ ((Itr 0 n).go i H ∧ ∃ Nx : Hp → Prop, (∀ H', Nx H' → ∃ m', m' < m ∧ W (i + 1) m' H') ∧ ∀ x H', (Itr 0 n).yld i H x H' → gName j x (wipe σ [j]) H' fun σ2 H2 => wipe σ2 [j] = wipe σ [j] ∧ tYes σ2 H2 fun b H3 =>
        if b = true then te σ2 H3 fun y H4 => ∃ acc, H4 D = some (.lst acc) ∧ acc.length < sizeLine ∧ Nx (upd H4 D (.lst (acc ++ [y]))) else Nx H3) := by
  refine lc_range (lo := 0) (n := n) (fun i H => Same H1 H ∧ H D = some (.lst (zs.take i))) ⟨same_new hD, upd_same⟩ ?_ ?_
  · rintro i H hx ⟨s, hd⟩
    have hi : i < zs.length := by omega
    refine ⟨wipe1, turn i zs[i] H _ hx (List.getElem?_eq_getElem hi) s fun H4 s4 => ⟨_, s4 _ _ hd, Evl.sz_lt (by rw [List.length_take]; omega), same_mut (s.trans s4) hD, ?_⟩⟩
    rw [upd_same, take_succ' (List.getElem?_eq_getElem hi)]
  · rintro H ⟨s, hd⟩
    rw [hl, List.take_length] at hd
    exact fin H s hd
/-- [e for x in texts], each e a datum, or nothing behind it -/
theorem lcR_list {β : Type} {te : TE} {σ : L2.St} {j : Nat} {H1 : Hp} {Qd : Hp → Prop} (f : Str → Option β) (g : β → PyData) (ts : List Str) (hz : ts.length ≤ 100000) (hS : SqL K H1 a (ts.map V.str)) (hD : H1 D = none) (hf : Has fp H1)
    (turn : ∀ (x : Str) (H : Hp) (R : VK), x ∈ ts → Same H1 H → Has (And1 fp D) H → (∀ b y H', f x = some b → Same H H' → Dp K (off (And1 fp D) H') y (g b) → R y H') → te ((wipe σ [j]).set j (some (.str x))) H R)
    (fin : ∀ bs H' ys, seqO f ts = some bs → Same H1 H' → H' D = some (.lst ys) → DpAll K (off (And1 fp D) H') ys (bs.map g) → Dp K (off fp H') (.ref D) (.list (bs.map g)) → Qd H') :
    ∃ W : Nat → Nat → Hp → Prop, (∃ m, W 0 m (upd H1 D (.lst []))) ∧ ∀ i m H, W i m H →
      ((Itl K a).stop i H ∧ Qd H) ∨ ((Itl K a).go i H ∧ ∃ Nx : Hp → Prop, (∀ H', Nx H' → ∃ m', m' < m ∧ W (i + 1) m' H') ∧ ∀ x H', (Itl K a).yld i H x H' → gName j x (wipe σ [j]) H' fun σ2 H2 => wipe σ2 [j] = wipe σ [j] ∧ tYes σ2 H2 fun b H3 =>
        if b = true then te σ2 H3 fun y H4 => ∃ acc, H4 D = some (.lst acc) ∧ acc.length < sizeLine ∧ Nx (upd H4 D (.lst (acc ++ [y]))) else Nx H3) := by
  refine lc_list (K := K) (a := a) (xs := ts.map V.str) (fun i H => ∃ bs ys, seqO f (ts.take i) = some bs ∧ Same H1 H ∧ H D = some (.lst ys) ∧ DpAll K (off (And1 fp D) H) ys (bs.map g)) ⟨[], [], rfl, same_new hD, upd_same, .nil⟩ (fun i H _ ⟨_, _, _, s, _⟩ => same_l s hS) ?_ ?_
  · rintro i x H hx ⟨bs, ys, hb, s, hd, r⟩
    rw [List.getElem?_map] at hx
    cases e : ts[i]? with
    | none => rw [e] at hx; cases hx
    | some z =>
      rw [e] at hx
      have hx := Option.some.inj hx
      subst hx
      have hi : i < ts.length := (List.getElem?_eq_some_iff.mp e).1
      have hf1 : Has (And1 fp D) H := (hf.same s).and1 (by rw [hd]; exact fun z => nomatch z)
      refine ⟨wipe1, turn z H _ (List.mem_of_getElem? e) s hf1 fun b y H4 hz4 s4 r4 => ?_⟩
      have hd4 : H4 D = some (.lst ys) := s4 _ _ hd
      have hn := r.length
      have hm := seqO_len hb
      rw [List.length_map, hm, List.length_take] at hn
      refine ⟨ys, hd4, Evl.sz_lt (by omega), bs ++ [b], ys ++ [y], ?_, same_mut (s.trans s4) hD, upd_same, ?_⟩
      · rw [take_succ' e]; exact seqO_snoc hb hz4
      · rw [off_upd (Or.inr rfl), List.map_append]
        exact (r.same (off_mono s4)).append (.cons r4 .nil)
  · rintro H ⟨bs, ys, hb, s, hd, r⟩
    rw [List.length_map, List.take_length] at hb
    refine fin bs H ys hb s hd r (.lst (.inl (.inl ?_)) (r.same (off_less fun _ z => Or.inl z)))
    rw [off_out (hf.new hD), hd]
end
/-! ### what is cut out of a text -/
theorem spl_sub {S : List Nat} : ∀ {l : List Nat} {k : Nat} {acc p : List Nat}, p ∈ spl S k acc l → p.length ≤ acc.length + l.length ∧ ∀ c ∈ p, c ∈ acc ∨ c ∈ l
  | [], k, acc, p, h => by
    rw [spl_nil, List.mem_singleton] at h
    subst h
    exact ⟨Nat.le_refl _, fun c hc => .inl hc⟩
  | d :: r, k, acc, p, h => by
    cases k with
    | zero =>
      by_cases hp : pre S (d :: r) = true
      · rw [spl_hit hp] at h
        rcases List.mem_cons.mp h with rfl | h
        · exact ⟨Nat.le_add_right _ _, fun c hc => .inl hc⟩
        · obtain ⟨h1, h2⟩ := spl_sub h
          simp only [List.length_nil, List.length_cons] at h1 ⊢
          refine ⟨by omega, fun c hc => ?_⟩
          rcases h2 c hc with z | z
          · cases z
          · exact .inr (.tail _ z)
      · rw [spl_miss (Bool.eq_false_iff.mpr hp)] at h
        obtain ⟨h1, h2⟩ := spl_sub h
        rw [List.length_append] at h1
        simp only [List.length_cons, List.length_nil] at h1 ⊢
        refine ⟨by omega, fun c hc => ?_⟩
        rcases h2 c hc with z | z
        · rcases List.mem_append.mp z with z | z
          · exact .inl z
          · rw [List.mem_singleton.mp z]; exact .inr (.head _)
        · exact .inr (.tail _ z)
    | succ k =>
      have h : p ∈ spl S k acc r := h
      obtain ⟨h1, h2⟩ := spl_sub h
      simp only [List.length_cons]
      exact ⟨by omega, fun c hc => (h2 c hc).imp id fun z => .tail _ z⟩
/-- a text of plain signs, not too long -/
structure Plain (z : Str) : Prop where
  l : z.length ≤ 90000
  c : ∀ c ∈ z.cps.toList, c < 128
theorem Plain.ok {z : Str} (h : Plain z) : PyData.strOk z = true := by
  unfold PyData.strOk
  rw [Array.all_eq_true_iff_forall_mem]
  intro c hc
  have := h.c c (Array.mem_toList_iff.mpr hc)
  simp
  omega
theorem split_plain {z y : Str} (hy : TL.tl y ≠ []) (hk : y.cps.all (· < 256) = true) (h : Plain z) : ∀ p ∈ Txt.split z y, Plain p := fun p hp => by
  have e := split_spl z y hy (kind_ok hk)
  have m : TL.tl p ∈ spl (TL.tl y) 0 [] (TL.tl z) := by rw [← e]; exact List.mem_map.mpr ⟨p, hp, rfl⟩
  obtain ⟨h1, h2⟩ := spl_sub m
  have l1 := len_tl p
  have l2 := len_tl z
  have := h.l
  refine ⟨by simp only [List.length_nil] at h1; omega, fun c hc => ?_⟩
  rcases h2 c hc with q | q
  · cases q
  · exact h.c c q
theorem par_sub {S : List Nat} : ∀ {l acc a b : List Nat}, par S acc l = some (a, b) → (∀ c ∈ a, c ∈ acc ∨ c ∈ l) ∧ (∀ c ∈ b, c ∈ l) ∧ a.length ≤ acc.length + l.length ∧ b.length ≤ l.length
  | [], acc, a, b, h => by cases h
  | d :: r, acc, a, b, h => by
    by_cases hp : pre S (d :: r) = true
    · rw [par_hit hp] at h
      cases h
      exact ⟨fun c hc => .inl hc, fun c hc => List.mem_of_mem_drop hc, Nat.le_add_right _ _, by rw [List.length_drop]; omega⟩
    · rw [par_miss (Bool.eq_false_iff.mpr hp)] at h
      obtain ⟨h1, h2, h3, h4⟩ := par_sub h
      rw [List.length_append] at h3
      simp only [List.length_cons, List.length_nil] at h3 ⊢
      refine ⟨fun c hc => ?_, fun c hc => .tail _ (h2 c hc), by omega, by omega⟩
      rcases h1 c hc with z | z
      · rcases List.mem_append.mp z with z | z
        · exact .inl z
        · rw [List.mem_singleton.mp z]; exact .inr (.head _)
      · exact .inr (.tail _ z)
theorem plain_nil : Plain Str.empty := ⟨Nat.zero_le _, fun c hc => by cases hc⟩
theorem partition_plain {z y : Str} (hy : TL.tl y ≠ []) (h : Plain z) : Plain (Txt.partition z y).1 ∧ Plain (Txt.partition z y).2.2 := by
  have e := partition_par z y hy
  cases q : par (TL.tl y) [] (TL.tl z) with
  | none =>
    rw [q] at e
    rw [e]
    exact ⟨h, plain_nil⟩
  | some ab =>
    obtain ⟨a, b⟩ := ab
    rw [q] at e
    rw [e]
    obtain ⟨h1, h2, h3, h4⟩ := par_sub q
    have l2 := len_tl z
    have := h.l
    refine ⟨⟨by rw [len_tl]; show a.length ≤ _; simp only [List.length_nil] at h3; omega, fun c hc => ?_⟩, ⟨by rw [len_tl]; show b.length ≤ _; omega, fun c hc => h.c c (h2 c hc)⟩⟩
    rcases h1 c hc with q | q
    · cases q
    · exact h.c c q
/-! ### the one refusal -/
structure NoD (K : PySem.W.Frag) (mg : Str → Option Value) (cl : Str → Addr) : Prop where
  g : mg "NoDeed" = some (.ref (cl "NoDeed"))
  q : PySem.W.excIn K (cl "NoDeed") [.type "ValueError", .type "Exception", .type "BaseException", .type "object"] "ValueError.__new__" = true
  kp : PySem.W.keepIn K (.ref (cl "NoDeed")) = true
  sb : PySem.W.subIn K (.ref (cl "NoDeed")) (.type "BaseException") = some true
  ty : PySem.W.typeIn K (.ref (cl "NoDeed")) = some (.type "type")
theorem NoD.pmk {X : Cx} {cl : Str → Addr} (E : NoD X.K X.mg cl) (n : Str) (hn : n ∈ (["NoDeed"] : List Str)) {m : Str} {j : Nat} {p p2 pos : Pos} (hg : Gl X n := by rfl) (hdb : (n == ("__debug__" : Str)) = false := by decide) :
    PMk X (.Call (.Name n p) [.Constant (.str m) j p2] [] pos) (fun _ H Q => Q (.ref (cl n)) none H) := by
  have hn := List.mem_singleton.mp hn
  subst hn
  exact pmk_own PySem.F.excBase_ValueError E.q E.g E.kp (raises_own E.sb E.ty) hg hdb
structure ConT (mg : Str → Option Value) : Prop where
  k_MOST_LETTERS : ∃ t, mg "_MOST_LETTERS" = some (.int 12 t)
  k_MOST_FIGURES : ∃ t, mg "_MOST_FIGURES" = some (.int 30 t)
structure DTup (K : PySem.W.Frag) (mg : Str → Option Value) (aD : Addr) : Prop where
  gD : mg "DEEDS" = some (.ref aD)
  dD : ∀ H, Dp K H (.ref aD) (.tuple deedsT)
/-! ### drawn numbers, of which only a bound is known -/
theorem lcE_range {te : TE} {σ : L2.St} {j : Nat} {H1 : Hp} {D : Addr} {Qd : Hp → Prop} {n : Nat} (P : Int → Prop) (hz : n ≤ 100000) (hD : H1 D = none)
    (turn : ∀ (i : Nat) (H : Hp) (R : VK), i < n → Same H1 H → (∀ m H', Same H H' → P m → R (.int m) H') → te ((wipe σ [j]).set j (some (.int (0 + (i : Int))))) H R)
    (fin : ∀ H' (ns : List Int), ns.length = n → (∀ m ∈ ns, P m) → Same H1 H' → H' D = some (.lst (ns.map V.int)) → Qd H') :
    ∃ W : Nat → Nat → Hp → Prop, (∃ m, W 0 m (upd H1 D (.lst []))) ∧ ∀ i m H, W i m H →
      ((Itr 0 n).stop i H ∧ Qd H) ∨ ((Itr 0 n).go i H ∧ ∃ Nx : Hp → Prop, (∀ H', Nx H' → ∃ m', m' < m ∧ W (i + 1) m' H') ∧ ∀ x H', (Itr 0 n).yld i H x H' → gName j x (wipe σ [j]) H' fun σ2 H2 => wipe σ2 [j] = wipe σ [j] ∧ tYes σ2 H2 fun b H3 =>
        if b = true then te σ2 H3 fun y H4 => ∃ acc, H4 D = some (.lst acc) ∧ acc.length < sizeLine ∧ Nx (upd H4 D (.lst (acc ++ [y]))) else Nx H3) := by
  refine lc_range (lo := 0) (n := n) (fun i H => ∃ ns : List Int, ns.length = i ∧ (∀ m ∈ ns, P m) ∧ Same H1 H ∧ H D = some (.lst (ns.map V.int))) ⟨[], rfl, (fun m h => by cases h), same_new hD, upd_same⟩ ?_ ?_
  · rintro i H hi ⟨ns, hl, hp, s, hd⟩
    refine ⟨wipe1, turn i H _ (by omega) s fun m H4 s4 pm => ⟨_, s4 _ _ hd, Evl.sz_lt (by rw [List.length_map]; omega), ns ++ [m], by rw [List.length_append, hl]; rfl, fun x hx => ?_, same_mut (s.trans s4) hD, ?_⟩⟩
    · rcases List.mem_append.mp hx with h | h
      · exact hp x h
      · rw [List.mem_singleton.mp h]; exact pm
    · rw [upd_same, List.map_append]; rfl
  · rintro H ⟨ns, hl, hp, s, hd⟩
    exact fin H ns hl hp s hd
theorem fig_mod {c m : Int} (h0 : 0 < m) (h1 : m ≤ 10 ^ 30) : Fig (c % m) := ⟨Int.emod_nonneg _ (by omega), by have := Int.emod_lt_of_pos c h0; omega⟩
/-- an int that may be written -/
def IntOk (n : Int) : Prop := n.natAbs.log2 < 1920 ∧ (numT n).length ≤ 100
theorem Fig.ok {n : Int} (h : Fig n) : IntOk n := ⟨log2_fig h, Nat.le_trans (numT_len h.1 h.2) (by decide)⟩
def TD.Sm : TD → Prop
  | .ord ls => ls.length ≤ 100 ∧ ∀ t ∈ ls, t.item.length ≤ 100 ∧ IntOk t.pieces ∧ IntOk t.cents ∧ IntOk t.pack
  | .num w ns => w ≠ "order" ∧ ns ≠ [] ∧ ns.length ≤ 100 ∧ w.length ≤ 100 ∧ ∀ n ∈ ns, IntOk n
theorem word_len {w : Str} {k : Nat} (h : partsOf w = some k) : w.length ≤ 10 := by
  rcases parts_word h with rfl | rfl | rfl | rfl | rfl | rfl | rfl | rfl <;> decide +kernel
theorem num_count {w : Str} {ns : List Int} (W : (TD.num w ns).Wr) : 2 ≤ ns.length ∧ ns.length ≤ 3 := by
  obtain ⟨h0, h1, _⟩ := W
  unfold partsOf at h1
  rw [if_neg h0] at h1
  by_cases h2 : w = "pay" ∨ w = "refund"
  · rw [if_pos h2] at h1; have := Option.some.inj h1; omega
  · rw [if_neg h2] at h1
    by_cases h3 : w = "deliver" ∨ w = "back" ∨ w = "swap" ∨ w = "credit" ∨ w = "move"
    · rw [if_pos h3] at h1; have := Option.some.inj h1; omega
    · rw [if_neg h3] at h1; cases h1
theorem TD.Wr.sm {d : TD} (W : d.Wr) : d.Sm := by
  cases d with
  | ord ls =>
    obtain ⟨_, h1, h⟩ := W
    exact ⟨h1, fun t ht => ⟨by have := item_len (h t ht).i; omega, (h t ht).p.ok, (h t ht).c.ok, (h t ht).k.ok⟩⟩
  | num w ns =>
    obtain ⟨n2, n3⟩ := num_count W
    obtain ⟨h0, h1, h⟩ := W
    exact ⟨h0, fun e => by rw [e] at n2; simp at n2, by omega, by have := word_len h1; omega, fun n hn => (h n hn).ok⟩
/-- data that is told alike part by part -/
def AlikeD (D : PyData) : Prop := (∃ w r, D = .tuple (.str w :: r) ∧ w ≠ "order" ∧ FlatT D) ∨ ∃ ls : List LineT, D = .tuple [.str "order", .list (ls.map lineD)] ∧ ls.length ≤ 100000 ∧ ∀ t ∈ ls, PyData.strOk t.item = true
theorem flat_line {t : LineT} (h : PyData.strOk t.item = true) : FlatT (lineD t) := ⟨_, rfl, by show 4 ≤ 100; decide, fun p hp => by
  simp only [List.mem_cons, List.not_mem_nil, or_false] at hp
  rcases hp with rfl | rfl | rfl | rfl
  · exact .inl ⟨_, rfl, h⟩
  · exact .inr ⟨_, rfl⟩
  · exact .inr ⟨_, rfl⟩
  · exact .inr ⟨_, rfl⟩⟩
theorem item_plain {z : Str} (h : itemOk z = true) : Plain z := ⟨by have := item_len h; omega, fun c hc => by
  unfold itemOk at h
  rw [Bool.and_eq_true, List.all_eq_true] at h
  have := h.2 c hc
  rw [Bool.and_eq_true, decide_eq_true_eq, decide_eq_true_eq] at this
  omega⟩
theorem word_plain {w : Str} {k : Nat} (h : partsOf w = some k) : Plain w := by
  rcases parts_word h with rfl | rfl | rfl | rfl | rfl | rfl | rfl | rfl <;> exact ⟨by decide +kernel, by decide +kernel⟩
theorem TD.Wr.alike {d : TD} (W : d.Wr) : AlikeD d.d := by
  cases d with
  | ord ls =>
    obtain ⟨_, h1, h⟩ := W
    exact .inr ⟨ls, rfl, by omega, fun t ht => (item_plain (h t ht).i).ok⟩
  | num w ns =>
    obtain ⟨n2, n3⟩ := num_count W
    obtain ⟨h0, h1, h⟩ := W
    refine .inl ⟨w, _, rfl, h0, _, rfl, by rw [List.length_cons, List.length_map]; omega, fun p hp => ?_⟩
    rcases List.mem_cons.mp hp with rfl | hp
    · exact .inl ⟨w, rfl, (word_plain h1).ok⟩
    · obtain ⟨n, _, rfl⟩ := List.mem_map.mp hp
      exact .inr ⟨n, rfl⟩
theorem cut1 {x : V} {xs : List V} : cutV (x :: xs) (some 1) none = xs := by
  unfold cutV
  rw [HT.sIx_none, show (1 : Int) = ((1 : Nat) : Int) from rfl, HT.sIx_nat, Nat.min_eq_left (by simp), List.drop_succ_cons, List.drop_zero, List.take_of_length_le (by simp)]
theorem cut1_not {x : V} {xs : List V} {hi : Option Int} : ¬ (HT.sIx (x :: xs).length 0 (some 1) = 0 ∧ HT.sIx (x :: xs).length (x :: xs).length hi = (x :: xs).length) := fun h => by
  have h := h.1
  rw [show (1 : Int) = ((1 : Nat) : Int) from rfl, HT.sIx_nat, Nat.min_eq_left (by simp)] at h
  cases h
theorem textOf_num {w : Str} {ns : List Int} (h : ns ≠ []) : textOf (.num w ns) = w ++ " " ++ Txt.join " " (ns.map numT) := by
  cases ns with
  | nil => exact absurd rfl h
  | cons n r =>
    show Txt.join " " (w :: numT n :: r.map numT) = _
    rw [join_cons]
    rfl
theorem IsItem.ok {z : Str} (h : IsItem z) : itemOk z = true := by
  unfold itemOk
  rw [Bool.and_eq_true, Bool.and_eq_true, decide_eq_true_eq, decide_eq_true_eq, List.all_eq_true]
  refine ⟨⟨h.i0, h.i1⟩, fun c hc => ?_⟩
  rw [Bool.and_eq_true, decide_eq_true_eq, decide_eq_true_eq]
  exact h.ia c hc
structure NoX (K : PySem.W.Frag) (mg : Str → Option Value) (cl : Str → Addr) : Prop where
  g : ∀ n ∈ (["NoDeed"] : List Str), mg n = some (.ref (cl n))
  x : PySem.W.exmOne K (.ref (cl "NoDeed")) (.ref (cl "NoDeed")) = some true
/-! ### what is written is plain -/
theorem num_plain {n : Int} (h : Fig n) : ∀ c ∈ (numT n).cps.toList, c < 128 := fun c hc => by
  obtain ⟨k, rfl⟩ := num_nat h.1
  rw [cps_num] at hc
  have := numL_digits k c hc
  omega
theorem join_chars {Pc : Nat → Prop} {y : Str} (hy : ∀ c ∈ TL.tl y, Pc c) {ps : List Str} (h : ∀ p ∈ ps, ∀ c ∈ TL.tl p, Pc c) : ∀ c ∈ TL.tl (Txt.join y ps), Pc c := by
  rw [TL.join_eq, tl_join]
  have go : ∀ ls : List (List Nat), (∀ p ∈ ls, ∀ c ∈ p, Pc c) → ∀ c ∈ joinL (TL.tl y) ls, Pc c := by
    intro ls
    induction ls with
    | nil => intro _ c hc; unfold joinL at hc; cases hc
    | cons p r ih =>
      intro h c hc
      cases r with
      | nil => unfold joinL at hc; exact h p (.head _) c hc
      | cons q r =>
        unfold joinL at hc
        rw [List.mem_append, List.mem_append] at hc
        rcases hc with hc | hc | hc
        · exact h p (.head _) c hc
        · exact hy c hc
        · exact ih (fun p hp => h p (.tail _ hp)) c hc
  refine go _ fun p hp => ?_
  obtain ⟨q, hq, rfl⟩ := List.mem_map.mp hp
  exact h q hq
theorem line_plain {t : LineT} (W : t.Wr) : ∀ c ∈ TL.tl (lineT t), c < 128 := join_chars (by rw [blank_cps]; decide) (fun p hp => by
  simp only [List.mem_cons, List.not_mem_nil, or_false] at hp
  rcases hp with rfl | rfl | rfl | rfl
  · exact (item_plain W.i).c
  · exact num_plain W.p
  · exact num_plain W.c
  · exact num_plain W.k)
theorem TD.Wr.plain {d : TD} (W : d.Wr) : Plain (textOf d) := by
  cases d with
  | ord ls =>
    obtain ⟨_, h1, h⟩ := W
    have jl := join_len ", " (ls.map lineT)
    have jm := sum_le (k := 124) (ns := (ls.map lineT).map (·.length)) (fun n hn => by
      obtain ⟨p, hp, rfl⟩ := List.mem_map.mp hn
      obtain ⟨x, hx', rfl⟩ := List.mem_map.mp hp
      exact lineT_len (h x hx'))
    rw [List.length_map, List.length_map] at jm
    rw [List.length_map, show ((", " : Str)).length = 2 by decide +kernel] at jl
    refine ⟨?_, fun c hc => ?_⟩
    · show ("order " ++ Txt.join ", " (ls.map lineT)).length ≤ 90000
      rw [len_cps, cps_app, List.length_append, ← len_cps, ← len_cps, show (("order " : Str)).length = 6 by decide +kernel]
      omega
    · have hc : c ∈ ("order " ++ Txt.join ", " (ls.map lineT)).cps.toList := hc
      rw [cps_app] at hc
      rcases List.mem_append.mp hc with hc | hc
      · exact (show ∀ c ∈ (("order " : Str)).cps.toList, c < 128 by decide +kernel) c hc
      · refine join_chars (Pc := fun c => c < 128) (by rw [comma_cps]; decide) (fun p hp => ?_) c hc
        obtain ⟨t, ht, rfl⟩ := List.mem_map.mp hp
        exact line_plain (h t ht)
  | num w ns =>
    obtain ⟨n2, n3⟩ := num_count W
    obtain ⟨h0, h1, h⟩ := W
    have jl := join_len " " (w :: ns.map numT)
    have jm := sum_le (k := 30) (ns := (w :: ns.map numT).map (·.length)) (fun n hn => by
      obtain ⟨p, hp, rfl⟩ := List.mem_map.mp hn
      rcases List.mem_cons.mp hp with rfl | hp
      · have := word_len h1; omega
      · obtain ⟨x, hx', rfl⟩ := List.mem_map.mp hp
        exact numT_len (h x hx').1 (h x hx').2)
    rw [List.length_map, List.length_cons, List.length_map] at jm
    rw [List.length_cons, List.length_map, show ((" " : Str)).length = 1 by decide +kernel] at jl
    refine ⟨?_, ?_⟩
    · show (Txt.join " " (w :: ns.map numT)).length ≤ 90000
      omega
    · refine join_chars (by rw [blank_cps]; decide) (fun p hp => ?_)
      rcases List.mem_cons.mp hp with rfl | hp
      · exact (word_plain h1).c
      · obtain ⟨x, hx', rfl⟩ := List.mem_map.mp hp
        exact num_plain (h x hx')
theorem AlikeD.shaped {D : PyData} (h : AlikeD D) : SeqAt.shaped D = true := by
  rcases h with ⟨w, r, rfl, _, fd⟩ | ⟨ls, rfl, _, hs⟩
  · exact shaped_fl fd.ok
  · refine shaped_fl (n := 3) ?_
    show (PyData.strOk "order" && ((ls.map lineD).all (fl 1) && true)) = true
    rw [Bool.and_true, Bool.and_eq_true, List.all_eq_true]
    refine ⟨by decide +kernel, fun d hd => ?_⟩
    obtain ⟨t, ht, rfl⟩ := List.mem_map.mp hd
    exact (flat_line (hs t ht)).ok
theorem td_ref {K : PySem.W.Frag} {H : Hp} {v : V} {d : TD} (h : Dp K H v d.d) : ∃ p, v = .ref p := by
  cases d with
  | ord ls => exact (dp_tuple h).imp fun _ h => h.elim fun _ h => h.1
  | num w ns => exact (dp_tuple h).imp fun _ h => h.elim fun _ h => h.1
end Of

set_option Elab.async false
set_option linter.all false
set_option maxRecDepth 100000
set_option maxHeartbeats 4000000
/-! Texts gone through sign by sign, cut and put together: what the laws' own readers want. -/
namespace Of
open PySem PySem.Spec PyProof.Rows L2 NumText TL
theorem for_str {x : Str} {g : TG} {tb : TS} {D : Ends} {σ : L2.St} {H : Hp} (Pv : Nat → L2.St → Hp → Prop) (h0 : Pv 0 σ H)
    (hs : ∀ i c σ H, x.cps.toList[i]? = some c → Pv i σ H → g (.str ⟨#[c]⟩) σ H fun σ2 H2 => tb { D with nx := Pv (i + 1), ct := Pv (i + 1), bk := D.nx } σ2 H2) (hd : ∀ σ H, Pv x.cps.toList.length σ H → D.nx σ H) :
    ∃ W : Nat → Nat → L2.St → Hp → Prop, (∃ m, W 0 m σ H) ∧ ∀ i m σ H, W i m σ H →
      ((Its x).stop i H ∧ D.nx σ H) ∨ ((Its x).go i H ∧ ∃ N : L2.St → Hp → Prop, (∀ σ' H', N σ' H' → ∃ m', m' < m ∧ W (i + 1) m' σ' H') ∧ ∀ v H', (Its x).yld i H v H' → g v σ H' fun σ2 H2 => tb { D with nx := N, ct := N, bk := D.nx } σ2 H2) := by
  have hc : x.cps.size = x.cps.toList.length := by simp
  refine ⟨fun i m σ H => m = x.cps.toList.length - i ∧ i ≤ x.cps.toList.length ∧ Pv i σ H, ⟨_, rfl, Nat.zero_le _, h0⟩, ?_⟩
  rintro i m σ H ⟨rfl, hi, p⟩
  by_cases hlt : i < x.cps.toList.length
  · refine .inr ⟨by show i < x.cps.size; omega, Pv (i + 1), fun σ' H' p' => ⟨x.cps.toList.length - (i + 1), by omega, rfl, hlt, p'⟩, fun v H' y => ?_⟩
    obtain ⟨rfl, k, hk, rfl⟩ := y
    exact hs i k σ _ (by simpa using hk) p
  · have e : i = x.cps.toList.length := by omega
    subst e
    exact .inl ⟨by show x.cps.size ≤ _; omega, hd σ H p⟩
theorem op_mulS {X : Cx} : OpR X (binaryOp .Mult) (fun x y H Q => ∃ a n, x = .str a ∧ y = .int n ∧ MulOk a n ∧ Q (.str (Txt.mul a n)) H) := by
  intro pins s σ H x y v u Q I rx ry h
  obtain ⟨a, n, rfl, rfl, hok, q⟩ := h
  obtain ⟨t, rfl⟩ := rx
  obtain ⟨t', rfl⟩ := ry
  exact SB.mul hok fun t' k => ⟨.str _, H, I.tok k, ⟨t', rfl⟩, q⟩
theorem figs_mem {c : Nat} : decide (c ∈ (("0123456789" : Str)).cps.toList) = (decide (48 ≤ c) && decide (c ≤ 57)) := by
  rw [show (("0123456789" : Str)).cps.toList = [48, 49, 50, 51, 52, 53, 54, 55, 56, 57] by decide +kernel, ← Bool.decide_and]
  refine decide_eq_decide.mpr ?_
  simp only [List.mem_cons, List.not_mem_nil, or_false]
  omega
theorem alpha_mem {c : Nat} : decide (c ∈ (("abcdefghijklmnopqrstuvwxyz" : Str)).cps.toList) = (decide (97 ≤ c) && decide (c ≤ 122)) := by
  rw [show (("abcdefghijklmnopqrstuvwxyz" : Str)).cps.toList = [97, 98, 99, 100, 101, 102, 103, 104, 105, 106, 107, 108, 109, 110, 111, 112, 113, 114, 115, 116, 117, 118, 119, 120, 121, 122] by decide +kernel, ← Bool.decide_and]
  refine decide_eq_decide.mpr ?_
  simp only [List.mem_cons, List.not_mem_nil, or_false]
  omega
/-! ### a text's first part -/
theorem spl_par {S : List Nat} (hS : S ≠ []) : ∀ {l acc : List Nat}, match par S acc l with | some (a, b) => spl S 0 acc l = a :: spl S 0 [] b | none => spl S 0 acc l = [acc ++ l]
  | [], acc => by
    show spl S 0 acc [] = [acc ++ []]
    rw [spl_nil, List.append_nil]
  | c :: r, acc => by
    by_cases h : pre S (c :: r) = true
    · rw [par_hit h]
      show spl S 0 acc (c :: r) = acc :: spl S 0 [] ((c :: r).drop S.length)
      rw [spl_hit h, spl_pass]
      cases S with
      | nil => exact absurd rfl hS
      | cons s S => rfl
    · have h := Bool.eq_false_iff.mpr h
      have ih := spl_par hS (l := r) (acc := acc ++ [c])
      rw [par_miss h, spl_miss h]
      cases e : par S (acc ++ [c]) r with
      | none =>
        rw [e] at ih
        rw [ih, List.append_assoc]
        rfl
      | some ab =>
        obtain ⟨a, b⟩ := ab
        rw [e] at ih
        exact ih
theorem split_head {z y : Str} (hy : TL.tl y ≠ []) (hk : y.cps.all (· < 256) = true) : ∃ r, Txt.split z y = (Txt.partition z y).1 :: r := by
  have e := split_spl z y hy (kind_ok hk)
  have p := partition_par z y hy
  have h := spl_par hy (l := TL.tl z) (acc := [])
  cases q : par (TL.tl y) [] (TL.tl z) with
  | none =>
    rw [q] at h p
    rw [h] at e
    rw [p]
    exact ⟨[], map_tl_inj (by rw [e]; rfl)⟩
  | some ab =>
    obtain ⟨a, b⟩ := ab
    rw [q] at h p
    rw [h] at e
    rw [p]
    cases s : Txt.split z y with
    | nil => rw [s] at e; cases e
    | cons x r =>
      rw [s] at e
      injection e with e1 e2
      exact ⟨r, by rw [show x = (⟨a.toArray⟩ : Str) from ext_tl e1]⟩
/-- a text that begins with 'order ' -/
theorem starts_order {z : Str} : Txt.startswith z "order " = decide ((TL.tl z).take 6 = [111, 114, 100, 101, 114, 32]) := by
  have el : TL.tl ("order " : Str) = [111, 114, 100, 101, 114, 32] := by decide +kernel
  have h := at_iff (x := z) (y := "order ") (by rw [el]; simp) 0
  rw [List.drop_zero, el] at h
  unfold Txt.startswith
  have hb : (decide (0 + ("order " : Str).length ≤ z.length) && PySem.Builtin.Str.subAt z "order " 0) = true ↔ PySem.StrLaws.At z "order " z.length 0 := by
    rw [Bool.and_eq_true, decide_eq_true_eq]
    exact Iff.rfl
  have hp : pre [111, 114, 100, 101, 114, 32] (TL.tl z) = true ↔ (TL.tl z).take 6 = [111, 114, 100, 101, 114, 32] := by
    unfold pre
    exact beq_iff_eq
  have := hb.trans (h.trans hp)
  by_cases hc : (TL.tl z).take 6 = [111, 114, 100, 101, 114, 32]
  · rw [decide_eq_true hc]
    exact this.mpr hc
  · rw [decide_eq_false hc]
    exact Bool.eq_false_iff.mpr fun e => hc (this.mp e)
theorem order_part {z : Str} (h : (TL.tl z).take 6 = [111, 114, 100, 101, 114, 32]) : Txt.partition z " " = (("order" : Str), (" " : Str), (⟨((TL.tl z).drop 6).toArray⟩ : Str)) := by
  have e : z = "order" ++ " " ++ (⟨((TL.tl z).drop 6).toArray⟩ : Str) := ext_tl (by
    rw [tl_append, tl_append, show TL.tl ("order" : Str) ++ TL.tl (" " : Str) = [111, 114, 100, 101, 114, 32] by decide +kernel, tl_mk, ← h, List.take_append_drop])
  conv => lhs; rw [e]
  exact partition_app blank_cps (by decide +kernel)
theorem no_order {z : Str} (h : ¬ (TL.tl z).take 6 = [111, 114, 100, 101, 114, 32]) (hw : (Txt.partition z " ").1 = "order") : Txt.partition z " " = (("order" : Str), Str.empty, Str.empty) := by
  have p := partition_par z " " (by rw [blank_cps]; simp)
  cases q : par (TL.tl (" " : Str)) [] (TL.tl z) with
  | none =>
    rw [q] at p
    rw [p] at hw ⊢
    have hw : z = "order" := hw
    rw [hw]
  | some ab =>
    obtain ⟨a, b⟩ := ab
    rw [q] at p
    rw [p] at hw
    have hw : (⟨a.toArray⟩ : Str) = "order" := hw
    have ha : a = [111, 114, 100, 101, 114] := by
      have := congrArg TL.tl hw
      rw [tl_mk] at this
      rw [this]
      decide +kernel
    refine absurd ?_ h
    have go : ∀ {l acc a b : List Nat}, par [32] acc l = some (a, b) → acc ++ l = a ++ 32 :: b := by
      intro l
      induction l with
      | nil => intro acc a b h; cases h
      | cons c r ih =>
        intro acc a b h
        by_cases hp : pre [32] (c :: r) = true
        · rw [par_hit hp] at h
          cases h
          have : c = 32 := by
            have e : (c :: r).take 1 = [32] := eq_of_beq hp
            simpa using e
          rw [this]
          rfl
        · rw [par_miss (Bool.eq_false_iff.mpr hp)] at h
          have := ih h
          rw [List.append_assoc] at this
          exact this
    rw [blank_cps] at q
    have e := go q
    rw [List.nil_append] at e
    rw [e, ha]
    rfl
theorem lineOf_nil : lineOf Str.empty = none := by
  unfold lineOf
  rw [show Txt.split Str.empty " " = [Str.empty] by decide +kernel]
  rfl
theorem deedOf_order {z : Str} (h : (TL.tl z).take 6 = [111, 114, 100, 101, 114, 32]) : deedOf z = (seqO lineOf (Txt.split (⟨((TL.tl z).drop 6).toArray⟩ : Str) ", ")).map .ord := by
  unfold deedOf
  rw [order_part h]
  dsimp only
  rw [if_pos rfl]
theorem deedOf_no {z : Str} (h : ¬ (TL.tl z).take 6 = [111, 114, 100, 101, 114, 32]) (hw : (Txt.partition z " ").1 = "order") : deedOf z = none := by
  unfold deedOf
  rw [no_order h hw]
  dsimp only
  rw [if_pos rfl, show Txt.split Str.empty ", " = [Str.empty] by decide +kernel]
  unfold seqO
  rw [lineOf_nil]
  rfl
end Of

set_option Elab.async false
set_option linter.all false
set_option maxRecDepth 100000
set_option maxHeartbeats 4000000
/-! A def that is called within an except suite with the error that the suite holds: isinstance of it, and how many of the answers are True. -/
namespace Of
open PySem PySem.Spec PyProof.Rows L2 L2H
/-! ### how often a truth stands in a list of truths -/
def isB (k : Bool) : Value → Bool
  | .bool b => b == k
  | _ => false
theorem vals_bools : ∀ {bs : List Bool} {us : List Value}, Vals (bs.map V.bl) us → us = bs.map Value.bool
  | [], _, .nil => rfl
  | b :: bs, _, .cons r t => by
    obtain rfl := r
    rw [vals_bools t]
    rfl
theorem isB_count (k : Bool) : ∀ bs : List Bool, (bs.map Value.bool).countP (isB k) = bs.count k
  | [] => rfl
  | b :: bs => by
    rw [List.map_cons, List.countP_cons, List.count_cons, isB_count k bs]
    rfl
def rCntB (K : PySem.W.Frag) : V → List V → Hp → VK → Prop := fun x xs H Q => ∃ (p : Addr) (bs : List Bool) (k : Bool), x = .ref p ∧ xs = [.bl k] ∧ SqL K H p (bs.map V.bl) ∧ Q (.int (bs.count k : Nat)) H
theorem mt_countB {X : Cx} : MtR X "list.count" (rCntB X.K) := by
  intro pins s σ H x xs v us Q I rx rxs h
  obtain ⟨p, bs, k, rfl, rfl, hs, q⟩ := h
  cases rx
  obtain ⟨u, rfl, ru⟩ := rxs.one
  obtain rfl : u = Value.bool k := ru
  obtain ⟨its, rv, ⟨⟨cls, dd, data, sl⟩, n, ho, hc, hdn, hd⟩, hlen⟩ := I.list hs
  simp only at hc hd
  subst hc hd
  have ei := vals_bools rv
  subst ei
  refine call_meets PySem.F.slot_list_count ⟨_, ho, rfl⟩ PySem.F.entry_list_count (PySem.F.args_list_count_2 _ _) (SeqAt.list_countAt p (bs.map Value.bool).toArray n dd sl (.bool k) (isB k)) ⟨ho, fun y hy => ?_, ?_⟩
  · have hy : y ∈ bs.map Value.bool := by simpa using hy
    obtain ⟨b, _, rfl⟩ := List.mem_map.mp hy
    exact SeqAt.EqAt.bool_bool b k
  · refine ⟨.int (bs.count k : Nat), H, I.tok _, ⟨s.toks, ?_⟩, q⟩
    show Value.int (((bs.map Value.bool).toArray.toList.countP (isB k) : Nat) : Int) s.toks = _
    rw [List.toList_toArray, isB_count]
theorem mt_countBK {X : Cx} (K : PySem.W.Frag) (h : X.K = K := by rfl) : MtR X "list.count" (rCntB K) := h ▸ mt_countB
/-! ### isinstance of the error that is held -/
theorem call_isP {X : Cx} {D : Addr} {p : Addr × Obj} (hp : p ∈ X.pn) (C : ExcC X.K D) (hz : Zc (.ref D) none p.2) (hf : ∃ vs, p.2.data = .fields vs) : CallR X (.builtin "isinstance") (rIsE X.K D p.1) := by
  intro pins s σ H xs us Q I r h
  obtain ⟨c, cv, b, rfl, hcv, e, q⟩ := h
  cases r with
  | cons rx rr =>
    cases rr with
    | cons rt rr =>
      cases rr
      cases rx
      have ec := hcv _ rt
      subst ec
      obtain ⟨hget, _⟩ := I.pin p (List.mem_append.mpr (.inl hp))
      obtain ⟨a, oe⟩ := p
      obtain ⟨vs, hv⟩ := hf
      have J : PySem.W.InstAt s.heap a oe D none := by
        obtain ⟨oc, od, oda, osl⟩ := oe
        obtain ⟨h1, h2⟩ := hz
        dsimp only at h1 h2 hv
        subst h1 h2 hv
        exact ⟨hget, rfl, rfl, trivial⟩
      exact PySem.W.kia_one (PySem.W.handS_kitx_exc C.hg C.hk C.hs C.hd C.ha C.hn C.ht C.hm) I.kIn J e (fun z => nomatch z) fun tk => ⟨.bl b, H, I.kept (t' := tk) fun _ _ z => z, rfl, q⟩
/-! ### a def that is handed the error -/
/-- its promise, told of the error's class D and place a -/
structure FnE (P : Program) (w : World) (K : PySem.W.Frag) (mg : Str → Option Value) (base : Heap) (k : Nat) (f : Addr) (fd : FuncData) (ps : List Str) (sp : Addr → Addr → Sp) : Prop where
  len : ∀ D a vs H Q E, sp D a vs H Q E → vs.length = ps.length
  run : ∀ (A : Around) (outer : List Env) (s : Shared) (H : Hp) (args : Args) (us : List Value) (vs : List V) (Q : VK) (E : XK) (p : Addr × Obj) (D : Addr), RoomH k A → PinOk outer H s p → Zc (.ref D) none p.2 → (∃ fs, p.2.data = .fields fs) → Env0 P w K mg base A outer s H →
    BindsTo s fd args (ps.zip us) → Vals vs us → sp D p.1 vs H Q E → codeAny (model P w) A (.call (.ref f) args) (CR CX0 outer P w H s Q E) s
theorem fn_ofE {P : Program} {w : World} {K : PySem.W.Frag} {mg : Str → Option Value} {base : Heap} {k : Nat} {f : Addr} {name qual : Str} {params : Arguments} {body : List Stmt} {scope : Scope} {dV kV doc pm cdv ct oc : Value} {an od : Option Addr} {osl : Array (Option Value)} {N ps : List Str} {sp : Addr → Addr → Sp}
    (lk : K.lookup f = some ⟨oc, od, .func (PySem.W.fnOf name qual params body scope dV kV doc pm an cdv ct), osl⟩) (hcd : PySem.W.codeIn K cdv qual = true) (S : FnScope N ps scope) (len : ∀ D a vs H Q E, sp D a vs H Q E → vs.length = ps.length)
    (hbody : ∀ (A : Around) (outer : List Env) (s : Shared) (H : Hp) (vs : List V) (Q : VK) (E : XK) (p : Addr × Obj) (D : Addr), Zc (.ref D) none p.2 → (∃ fs, p.2.data = .fields fs) → RoomH k (A.deeper (envOfC qual scope s.heap.objs.size f cdv)) → sp D p.1 vs H Q E →
      ∃ t, PSs (cxH CX0 P w K mg base N qual scope f cdv A outer s H E p) body t ∧ t { nx := fun _ H' => Q .non H', rt := Q } (L2.start N vs) H) :
    FnE P w K mg base (k + 1) f (PySem.W.fnOf name qual params body scope dV kV doc pm an cdv ct) ps sp := by
  refine ⟨len, fun A outer s H args us vs Q E p D room pin hz hf e0 hb r h => ?_⟩
  have kin : K.In s.heap := e0.mod.kin.keeps fun b o e => (e0.bs b o e).1
  have limit : s.heap.NoLimit := e0.mod.nolimit.keeps fun b o e => (e0.bs b o e).1
  have kinds : ∀ y ∈ ps.zip us, scope.names.lookup y.1 = some .local ∨ (scope.names.lookup y.1 = some .cell ∧ ((cellsFrom (s.heap.objs.size + 1) scope.names []).lookup y.1).isSome = true) := fun y hy => (S.par y.1 (List.of_mem_zip hy).1).imp id fun q => ⟨q, PySem.W.cellsFrom_some _ _ _ (.inl q)⟩
  refine codeAny_call_function room.depth (kin _ _ lk) rfl S.co S.gen rfl (PySem.W.codeRec_of kin hcd) (hb _ _ _ _ (wpAny_newFunctionEnv_cells S.kind kinds fun env he s1 x => ?_))
  subst he
  refine ⟨limit.keeps x.toInCall.keep, codeAny_func ?_⟩
  obtain ⟨t, ht, q⟩ := hbody A outer s H vs Q E p D hz hf (room.deeper _) h
  refine wpAny_mono (ht.run [] s1 (L2.start N vs) H _ (inv_startH S pin e0 (len _ _ _ _ _ _ h) r x) q) (fun fl z hs => ?_) fun e z hs => hs
  cases fl with
  | ret u =>
    obtain ⟨v, σ', H', J, rv, q⟩ := hs
    exact ⟨v, H', J.os, J.bare, J.base, J.hok, rv, q⟩
  | next =>
    obtain ⟨σ', H', J, q⟩ := hs
    exact ⟨V.non, H', J.os, J.bare, J.base, J.hok, rfl, q⟩
  | brk => exact hs.elim fun _ h => h.elim fun _ h => h.2.elim
  | cont => exact hs.elim fun _ h => h.elim fun _ h => h.2.elim
/-- it may be called by its name -/
structure CalE (P : Program) (w : World) (K : PySem.W.Frag) (mg : Str → Option Value) (base : Heap) (k : Nat) (x : Str) (ps : List Str) (sp : Addr → Addr → Sp) : Prop where
  ex : ∃ f fd, FnE P w K mg base k f fd ps sp ∧ mg x = some (.ref f) ∧ PySem.W.keepIn K (.ref f) = true ∧ Binds K fd ps []
def tCalE (sp : Addr → Addr → Sp) (a : Addr) (cls : Value) (d : Option Addr) (t : TA) : TE := fun σ H Q => t σ H fun vs H1 => ∃ D : Addr, cls = .ref D ∧ d = none ∧ sp D a vs H1 Q E0
theorem pe_calE {X : Cx} {a : Addr} {cls : Value} {d : Option Addr} {oe : Obj} {pn : List (Addr × Obj)} {k : Nat} {x : Str} {ps : List Str} {sp : Addr → Addr → Sp} {q pos : Pos} {e : Expr} {es : List Expr} {t : TA} (c : CalE X.prog X.w X.K X.mg X.base k x ps sp) (hr : Room k X.A) (hz : Zc cls d oe) (hf : ∃ vs, oe.data = .fields vs)
    (ha : PA (X.suite a ((a, oe) :: pn)) (e :: es) t) (hg : Gl X x := by rfl) (hdb : (x == ("__debug__" : Str)) = false := by decide) (he : starEach (e :: es) X.env = (false, eval e X.env) :: starEach es X.env := by rfl) (hpl : (backTo pos (starEach es X.env)).any (·.1) = false := by rfl) :
    PE (X.suite a ((a, oe) :: pn)) (.Call (.Name x q) (e :: es) [] pos) (tCalE sp a cls d t) := by
  obtain ⟨f, fd, F, hm, hk, hb⟩ := c.ex
  refine ⟨fun pins s σ H Q I h => ?_⟩
  refine wpAny_Call_Name_kw (ld_glob I hg hm ?_ hdb)
  refine PySem.W.callWith_K (h₀ := X.base) I.ok.mod.kin hk (thn (ha.run pos pins s σ H _ I h) fun us s1 ⟨vs, H1, I1, r, D, ec, ed, q⟩ => ⟨I1.kIn, ?_⟩) he hpl
  subst ec ed
  have hl : us.length = ps.length := by rw [← r.length]; exact F.len _ _ _ _ _ _ q
  have b := hb s1 us I1.kIn (by rw [List.append_nil]; exact hl)
  rw [List.append_nil] at b
  have P1 := I1.pin (a, oe) (List.mem_append_left _ List.mem_cons_self)
  have pin : PinOk (X.suite a ((a, oe) :: pn)).stack H1 s1 (a, oe) := ⟨P1.1, P1.2.1, fun hm => (List.mem_cons.mp (I1.stkSub a hm)).elim P1.2.2.1 P1.2.2.2.1, P1.2.2.2.2⟩
  refine wpAny_call (codeAny_mono (F.run _ _ s1 H1 ⟨us, []⟩ us vs Q E0 (a, oe) D (roomH_mark hr _) pin hz hf I1.env0 b r q) fun r s' hq => ?_)
  cases r with
  | error e => exact hq.elim
  | ok fl =>
    cases fl with
    | ret u => exact I1.after hq
    | next => exact hq.elim
    | brk => exact hq.elim
    | cont => exact hq.elim
/-! ### the ten classes -/
abbrev ten : List Str := ["NoDeed", "NoLines", "NoItem", "NoNumber", "FullBook", "NoOrder", "SameOrder", "NoLine", "TooMuch", "NothingDone"]
/-- what the ten say, asked of an error of one of src -/
structure OneE (K : PySem.W.Frag) (mg : Str → Option Value) (cl : Str → Addr) (src : List Str) : Prop where
  g : ∀ n ∈ ten, mg n = some (.ref (cl n))
  s : ∀ n ∈ src, n ∈ ten
  c : ∀ n ∈ src, ExcC K (cl n)
  i : ∀ n ∈ src, ∀ m ∈ ten, PySem.W.kitOne K (.ref (cl n)) (.ref (cl m)) = some (decide (n = m))
  v : ∀ n ∈ src, PySem.W.kitOne K (.ref (cl n)) (.type "ValueError") = some true
/-- FlowError takes them -/
structure FlowE (K : PySem.W.Frag) (mg : Str → Option Value) (cl : Str → Addr) (cF : Addr) (src : List Str) : Prop where
  g : ∀ n ∈ (["FlowError"] : List Str), mg n = some (.ref cF)
  x : ∀ n ∈ src, PySem.W.exmOne K (.ref (cl n)) (.ref cF) = some true
theorem kit_ref {K : PySem.W.Frag} {C D : Addr} {r : Bool} (e : PySem.W.subIn K (.ref C) (.ref D) = some r) (self : PySem.W.subIn K (.ref C) (.ref C) = some true) (i : PySem.W.isClsIn K D = true) (t : PySem.W.typeIn K (.ref D) = some (.type "type")) : PySem.W.kitOne K (.ref C) (.ref D) = some r := by
  unfold PySem.W.kitOne
  by_cases h : ((Value.ref C : Value) == .ref D) = true
  · rw [if_pos h]
    have h : C = D := Value.ref.inj (beq_iff_eq.mp h)
    subst h
    rw [self] at e
    exact e
  · rw [if_neg h]
    unfold PySem.W.isClsIn at i
    show (if ((PySem.W.clsIn K D).isSome && PySem.W.typeIn K (.ref D) == some (.type "type")) = true then PySem.W.subIn K (.ref C) (.ref D) else none) = some r
    rw [i, t]
    exact e
theorem kit_val {K : PySem.W.Frag} {D : Addr} (h : PySem.W.subIn K (.ref D) (.type "ValueError") = some true) : PySem.W.kitOne K (.ref D) (.type "ValueError") = some true := by
  unfold PySem.W.kitOne
  rw [if_neg (show ¬ ((Value.ref D == Value.type "ValueError") = true) from fun z => by cases beq_iff_eq.mp z)]
  show (if PySem.W.kitMeta "ValueError" = true then PySem.W.subIn K (.ref D) (.type "ValueError") else none) = some true
  rw [if_pos (by decide +kernel)]
  exact h
theorem cal_ofE {P : Program} {w : World} {K : PySem.W.Frag} {mg : Str → Option Value} {base : Heap} {x : Str} {st : Stmt} {N ps : List Str} {k : Nat} {sp : Addr → Addr → Sp} (D : DefAt K mg x st ps) (S : FnScope N ps (defScope st)) (len : ∀ D a vs H Q E, sp D a vs H Q E → vs.length = ps.length)
    (hbody : ∀ (f : Addr) (cdv : Value) (A : Around) (outer : List Env) (s : Shared) (H : Hp) (vs : List V) (Q : VK) (E : XK) (p : Addr × Obj) (D : Addr), Zc (.ref D) none p.2 → (∃ fs, p.2.data = .fields fs) → RoomH k (A.deeper (envOfC x (defScope st) s.heap.objs.size f cdv)) → sp D p.1 vs H Q E →
      ∃ t, PSs (cxH CX0 P w K mg base N x (defScope st) f cdv A outer s H E p) (defBody st) t ∧ t { nx := fun _ H' => Q .non H', rt := Q } (L2.start N vs) H) : CalE P w K mg base (k + 1) x ps sp := by
  obtain ⟨f, fd, F, hm, hb⟩ := D.ex
  obtain ⟨oc, od, kV, doc, pm, an, cdv, ct, osl, rfl, lk, hcd⟩ := F.ex
  exact ⟨f, _, fn_ofE lk hcd S len fun A outer s H vs Q E p D hz hf hr h => hbody f cdv A outer s H vs Q E p D hz hf hr h, hm, F.kp, hb⟩
def clOf10 (as : List Addr) (n : Str) : Addr := as.getD (ten.idxOf n) 0
end Of

set_option Elab.async false
set_option linter.all false
set_option maxRecDepth 100000
set_option maxHeartbeats 4000000
namespace Of
open PySem PyProof.Rows L2
local macro_rules | `(tactic| walk_at "go") => `(tactic| repeat (first
  | refine ⟨_, rfl, ?_⟩
  | refine ⟨_, _, rfl, rfl, ?_⟩
  | refine ⟨_, _, rfl, ?_⟩
  | refine And.intro rfl ?_
  | refine And.intro ⟨_, rfl⟩ ?_
  | refine And.intro (Evl.sz_of (of_decide_eq_true rfl)) ?_
  | (refine ite_yes ?_ ?_; decide +kernel)
  | (refine ite_no ?_ ?_; decide +kernel)
  | (refine And.intro ?_ ?_; (try dsimp only); omega)
  | (refine And.intro (And.intro ?_ ?_) ?_; omega; omega)
  | (refine And.intro (Or.inr (And.intro ?_ ?_)) ?_; omega; omega)
  | (refine And.intro (Or.inl (And.intro ?_ ?_)) ?_; omega; omega)
  | (refine And.intro (And.intro ?_ (And.intro ?_ ?_)) ?_; decide; decide; decide)
  | (refine And.intro ?_ ?_; (with_reducible (show (0 : Int) < (10 : Int) ^ _)); decide)))
local macro_rules | `(tactic| walk_at "fork") => `(tactic| (repeat' (refine ite2 (fun h => ?_) (fun h => ?_) <;> walk_at "go")))
local macro_rules | `(tactic| walk_at "gox") => `(tactic| repeat (first
  | refine ⟨_, rfl, ?_⟩
  | refine ⟨_, _, rfl, rfl, ?_⟩
  | refine ⟨_, _, rfl, ?_⟩
  | refine And.intro rfl ?_
  | refine And.intro ⟨_, rfl⟩ ?_
  | refine And.intro (Evl.sz_of (of_decide_eq_true rfl)) ?_
  | refine ite_bang ?_
  | (refine ite_yes ?_ ?_; (first | assumption | (decide +kernel)))
  | (refine ite_no ?_ ?_; (first | assumption | (decide +kernel)))
  | (refine And.intro ?_ ?_; (try dsimp only); omega)
  | (refine And.intro (And.intro ?_ ?_) ?_; omega; omega)
  | (refine And.intro (Or.inr (And.intro ?_ ?_)) ?_; omega; omega)
  | (refine And.intro (Or.inl (And.intro ?_ ?_)) ?_; omega; omega)
  | (refine And.intro (And.intro ?_ (And.intro ?_ ?_)) ?_; decide; decide; decide)
  | (refine And.intro ?_ ?_; (with_reducible (show (0 : Int) < (10 : Int) ^ _)); decide)
  | (refine ⟨_, ?_, _, ?_, rfl, rfl, ?_, ?_, ?_⟩; rotate_left 2; (first | assumption | exact SqL.of (by assumption)); rfl)
  | (refine ⟨_, ?_, rfl, Or.inl ?_, ?_⟩; rotate_left 1; (first | assumption | exact SqL.of (by assumption)))
  | (refine ⟨_, ?_, rfl, Or.inr ?_, ?_⟩; rotate_left 1; assumption)))
local macro_rules | `(tactic| walk_at "goz") => `(tactic| repeat (first
  | refine ⟨_, rfl, ?_⟩
  | refine ⟨_, _, rfl, rfl, ?_⟩
  | refine ⟨_, _, rfl, ?_⟩
  | refine And.intro rfl ?_
  | refine And.intro ⟨_, rfl⟩ ?_
  | refine And.intro (Evl.sz_of (of_decide_eq_true rfl)) ?_
  | refine ite_bang ?_
  | refine Or.inr ⟨_, rfl, ?_⟩
  | refine Or.inl ⟨_, rfl, ?_⟩
  | (refine ite_yes ?_ ?_; (first | assumption | (decide +kernel)))
  | (refine ite_no ?_ ?_; (first | assumption | (decide +kernel)))
  | (refine And.intro ?_ ?_; (try dsimp only); omega)
  | (refine And.intro (And.intro ?_ ?_) ?_; omega; omega)
  | (refine And.intro (Or.inr (And.intro ?_ ?_)) ?_; omega; omega)
  | (refine And.intro (Or.inl (And.intro ?_ ?_)) ?_; omega; omega)
  | (refine And.intro (And.intro ?_ (And.intro ?_ ?_)) ?_; decide; decide; decide)
  | (refine And.intro ?_ ?_; (with_reducible (show (0 : Int) < (10 : Int) ^ _)); decide)
  | (refine ⟨_, ?_, _, ?_, rfl, rfl, ?_, ?_, ?_⟩; rotate_left 2; (first | assumption | exact SqL.of (by assumption)); (first | assumption | rfl))
  | (refine ⟨_, ?_, rfl, Or.inl ?_, ?_⟩; rotate_left 1; (first | assumption | exact SqL.of (by assumption)))
  | (refine ⟨_, ?_, rfl, Or.inr ?_, ?_⟩; rotate_left 1; assumption)))
local macro_rules | `(tactic| walk_at "gop") => `(tactic| repeat (first
  | refine ⟨_, rfl, ?_⟩
  | refine ⟨_, _, rfl, rfl, ?_⟩
  | refine ⟨_, _, rfl, ?_⟩
  | refine And.intro rfl ?_
  | refine And.intro ⟨_, rfl⟩ ?_
  | refine And.intro (Evl.sz_of (of_decide_eq_true rfl)) ?_
  | refine ite_bang ?_
  | refine Or.inr ⟨_, rfl, ?_⟩
  | refine Or.inl ⟨_, rfl, ?_⟩
  | (refine ite_yes ?_ ?_; (first | assumption | (decide +kernel)))
  | (refine ite_no ?_ ?_; (first | assumption | (decide +kernel)))
  | (refine ⟨_, ?_, ?_, ?_, ?_, rfl, ?_, ?_, ?_, ?_, ?_⟩; rotate_left 4; assumption; (first | exact PF.cL (by assumption) | exact PF.cO (by assumption) | exact PF.cB (by assumption)); (first | exact PF.nL (by assumption) _ (by decide) | exact PF.nO (by assumption) _ (by decide) | exact PF.nB (by assumption) _ (by decide)); rfl)
  | (refine And.intro ⟨_, ?_, ?_, rfl, ?_, ?_⟩ ?_; rotate_left 2; assumption; rfl)
  | (refine And.intro ?_ ?_; (try dsimp only); omega)
  | (refine And.intro (And.intro ?_ ?_) ?_; omega; omega)
  | (refine And.intro (Or.inr (And.intro ?_ ?_)) ?_; omega; omega)
  | (refine And.intro (Or.inl (And.intro ?_ ?_)) ?_; omega; omega)
  | (refine And.intro (And.intro ?_ (And.intro ?_ ?_)) ?_; decide; decide; decide)
  | (refine And.intro ?_ ?_; (with_reducible (show (0 : Int) < (10 : Int) ^ _)); decide)
  | (refine ⟨_, ?_, _, ?_, rfl, rfl, ?_, ?_, ?_⟩; rotate_left 2; (first | assumption | exact SqL.of (by assumption)); (first | assumption | rfl))
  | (refine ⟨_, ?_, rfl, Or.inl ?_, ?_⟩; rotate_left 1; (first | assumption | exact SqL.of (by assumption)))
  | (refine ⟨_, ?_, rfl, Or.inr ?_, ?_⟩; rotate_left 1; assumption)))
def top (i : Nat) : Stmt := PySem.Challenge.pw_orderflow_k08_texts_read.main.body.getD i (.Pass ⟨0, 0, 0, 0⟩)
abbrev s_is_item : Stmt := top 14
abbrev s_read : Stmt := top 18
abbrev s__line : Stmt := top 19
abbrev s__number : Stmt := top 20
abbrev s__is_number : Stmt := top 21
abbrev s_cell_at : Stmt := top 23
abbrev s_whole : Stmt := top 24
abbrev s_number_by : Stmt := top 25
abbrev s_item_by : Stmt := top 26
abbrev s_any_deed : Stmt := top 27
abbrev s_text_of : Stmt := top 28
abbrev s_number_in : Stmt := top 29
abbrev s_line_in : Stmt := top 30
abbrev s_deed_in : Stmt := top 31
abbrev s_parts_alike : Stmt := top 32
abbrev s_deed_alike : Stmt := top 33
abbrev s_changed_by : Stmt := top 34
abbrev s_odd_text : Stmt := top 35
abbrev s_of_one_class : Stmt := top 36
abbrev s_refused_by_any : Stmt := top 37
abbrev s_law : Stmt := top 38
section
variable {P : Program} {w : World} {K : PySem.W.Frag} {mg : Str → Option Value} {base : Heap}
abbrev N_of_one_class : List Str := ["_law_e", "_law_found"]
abbrev P_of_one_class : List Str := ["_law_e"]
theorem sc_of_one_class : FnScope N_of_one_class P_of_one_class (defScope s_of_one_class) := ⟨rfl, rfl, rfl, by decide +kernel, rfl, by decide +kernel, by decide +kernel⟩
def sp_one (cl : Str → Addr) (src : List Str) : Addr → Addr → Sp := fun D a vs H Q _ => ∃ n ∈ src, D = cl n ∧ vs = [.ref a] ∧ ∀ H', Same H H' → Q (.bl true) H'
theorem one_count : ∀ n ∈ ten, ([decide (n = "NoDeed"), decide (n = "NoLines"), decide (n = "NoItem"), decide (n = "NoNumber")] ++ [decide (n = "FullBook"), decide (n = "NoOrder"), decide (n = "SameOrder")] ++ [decide (n = "NoLine"), decide (n = "TooMuch"), decide (n = "NothingDone")]).count true = 1 := by decide +kernel
theorem c_of_one_class {cl : Str → Addr} {src : List Str} (T : Blt mg) (E10 : OneE K mg cl src) (D : DefAt K mg "_law_of_one_class" s_of_one_class P_of_one_class) : CalE P w K mg base 1 "_law_of_one_class" P_of_one_class (sp_one cl src) := by
  refine cal_ofE D sc_of_one_class (fun D a vs H Q E h => ?_) (fun f cdv A outer s H vs Q E p D hz hf hr h => ?_)
  · obtain ⟨n, _, _, rfl, _⟩ := h
    rfl
  · obtain ⟨n, hn, rfl, rfl, q⟩ := h
    have HC := E10.c n hn
    have ct := one_count n (E10.s n hn)
    have ki := fun m hm => E10.i n hn m hm
    refine ⟨_, (pss_cons (ps_set (i := 1) sc_of_one_class.nd rfl (Or.inl rfl) (pe_lst (pa_cons (pe_callB (call_isP (List.Mem.head _) HC hz hf) (by rfl) T.m_isinstance (by decide +kernel) (pa_cons (pv 0) (pa_cons (pe_glob (v := .ref (cl "NoDeed")) (by rfl) (E10.g "NoDeed" (by decide)) rfl) pa_nil))) (pa_cons (pe_callB (call_isP (List.Mem.head _) HC hz hf) (by rfl) T.m_isinstance (by decide +kernel) (pa_cons (pv 0) (pa_cons (pe_glob (v := .ref (cl "NoLines")) (by rfl) (E10.g "NoLines" (by decide)) rfl) pa_nil))) (pa_cons (pe_callB (call_isP (List.Mem.head _) HC hz hf) (by rfl) T.m_isinstance (by decide +kernel) (pa_cons (pv 0) (pa_cons (pe_glob (v := .ref (cl "NoItem")) (by rfl) (E10.g "NoItem" (by decide)) rfl) pa_nil))) (pa_cons (pe_callB (call_isP (List.Mem.head _) HC hz hf) (by rfl) T.m_isinstance (by decide +kernel) (pa_cons (pv 0) (pa_cons (pe_glob (v := .ref (cl "NoNumber")) (by rfl) (E10.g "NoNumber" (by decide)) rfl) pa_nil))) pa_nil))))))
      (pss_cons (ps_set (i := 1) sc_of_one_class.nd rfl (Or.inl rfl) (pe_op op_cat (pv 1) (pe_lst (pa_cons (pe_callB (call_isP (List.Mem.head _) HC hz hf) (by rfl) T.m_isinstance (by decide +kernel) (pa_cons (pv 0) (pa_cons (pe_glob (v := .ref (cl "FullBook")) (by rfl) (E10.g "FullBook" (by decide)) rfl) pa_nil))) (pa_cons (pe_callB (call_isP (List.Mem.head _) HC hz hf) (by rfl) T.m_isinstance (by decide +kernel) (pa_cons (pv 0) (pa_cons (pe_glob (v := .ref (cl "NoOrder")) (by rfl) (E10.g "NoOrder" (by decide)) rfl) pa_nil))) (pa_cons (pe_callB (call_isP (List.Mem.head _) HC hz hf) (by rfl) T.m_isinstance (by decide +kernel) (pa_cons (pv 0) (pa_cons (pe_glob (v := .ref (cl "SameOrder")) (by rfl) (E10.g "SameOrder" (by decide)) rfl) pa_nil))) pa_nil))))))
      (pss_cons (ps_set (i := 1) sc_of_one_class.nd rfl (Or.inl rfl) (pe_op op_cat (pv 1) (pe_lst (pa_cons (pe_callB (call_isP (List.Mem.head _) HC hz hf) (by rfl) T.m_isinstance (by decide +kernel) (pa_cons (pv 0) (pa_cons (pe_glob (v := .ref (cl "NoLine")) (by rfl) (E10.g "NoLine" (by decide)) rfl) pa_nil))) (pa_cons (pe_callB (call_isP (List.Mem.head _) HC hz hf) (by rfl) T.m_isinstance (by decide +kernel) (pa_cons (pv 0) (pa_cons (pe_glob (v := .ref (cl "TooMuch")) (by rfl) (E10.g "TooMuch" (by decide)) rfl) pa_nil))) (pa_cons (pe_callB (call_isP (List.Mem.head _) HC hz hf) (by rfl) T.m_isinstance (by decide +kernel) (pa_cons (pv 0) (pa_cons (pe_glob (v := .ref (cl "NothingDone")) (by rfl) (E10.g "NothingDone" (by decide)) rfl) pa_nil))) pa_nil))))))
      (pss_one (ps_ret (pe_and (pe_callB (call_isP (List.Mem.head _) HC hz hf) (by rfl) T.m_isinstance (by decide +kernel) (pa_cons (pv 0) (pa_cons (pe_bltn (v := .ty "ValueError") (by rfl) T.m_ValueError (by decide +kernel) rfl) pa_nil))) (pe_one (pe_cmpR op_eq (pe_bm PySem.F.plainAttrs_list PySem.F.slot_list_count PySem.F.type_list_count (mt_countBK K) (pv 1) (pa_cons pe_bl pa_nil)) pe_int (nomark _))))))))), ?_⟩
    walk_at "goz"
    refine ⟨.ref (cl "NoDeed"), .ref (cl "NoDeed"), _, rfl, fun u z => z, ki "NoDeed" (by decide), ?_⟩
    walk_at "goz"
    refine ⟨.ref (cl "NoLines"), .ref (cl "NoLines"), _, rfl, fun u z => z, ki "NoLines" (by decide), ?_⟩
    walk_at "goz"
    refine ⟨.ref (cl "NoItem"), .ref (cl "NoItem"), _, rfl, fun u z => z, ki "NoItem" (by decide), ?_⟩
    walk_at "goz"
    refine ⟨.ref (cl "NoNumber"), .ref (cl "NoNumber"), _, rfl, fun u z => z, ki "NoNumber" (by decide), ?_⟩
    walk_at "goz"
    generalize hb1 : [decide (n = "NoDeed"), decide (n = "NoLines"), decide (n = "NoItem"), decide (n = "NoNumber")] = B1 at ct
    intro t1 g1
    have s1 := same_new (o := .lst [V.bl (decide (n = "NoDeed")), .bl (decide (n = "NoLines")), .bl (decide (n = "NoItem")), .bl (decide (n = "NoNumber"))]) g1
    have e1 : upd H t1 (.lst [V.bl (decide (n = "NoDeed")), .bl (decide (n = "NoLines")), .bl (decide (n = "NoItem")), .bl (decide (n = "NoNumber"))]) t1 = some (.lst (B1.map V.bl)) := by rw [← hb1]; exact upd_same
    have l1 : B1.length = 4 := by rw [← hb1]; rfl
    generalize upd H t1 _ = H1 at *
    walk_at "goz"
    refine ⟨.ref (cl "FullBook"), .ref (cl "FullBook"), _, rfl, fun u z => z, ki "FullBook" (by decide), ?_⟩
    walk_at "goz"
    refine ⟨.ref (cl "NoOrder"), .ref (cl "NoOrder"), _, rfl, fun u z => z, ki "NoOrder" (by decide), ?_⟩
    walk_at "goz"
    refine ⟨.ref (cl "SameOrder"), .ref (cl "SameOrder"), _, rfl, fun u z => z, ki "SameOrder" (by decide), ?_⟩
    walk_at "goz"
    generalize hb2 : [decide (n = "FullBook"), decide (n = "NoOrder"), decide (n = "SameOrder")] = B2 at ct
    intro t2 g2
    have s2 := same_new (o := .lst [V.bl (decide (n = "FullBook")), .bl (decide (n = "NoOrder")), .bl (decide (n = "SameOrder"))]) g2
    have e2 : upd H1 t2 (.lst [V.bl (decide (n = "FullBook")), .bl (decide (n = "NoOrder")), .bl (decide (n = "SameOrder"))]) t2 = some (.lst (B2.map V.bl)) := by rw [← hb2]; exact upd_same
    have l2 : B2.length = 3 := by rw [← hb2]; rfl
    have f1 := s2 _ _ e1
    generalize upd H1 t2 _ = H2 at *
    walk_at "goz"
    refine ⟨_, _, _, _, rfl, rfl, f1, e2, Evl.sz_of (by simp; omega), fun t3 g3 => ?_⟩
    rw [← List.map_append]
    have s3 := same_new (o := .lst ((B1 ++ B2).map V.bl)) g3
    have e3 : upd H2 t3 (.lst ((B1 ++ B2).map V.bl)) t3 = _ := upd_same
    generalize upd H2 t3 _ = H3 at *
    walk_at "goz"
    refine ⟨.ref (cl "NoLine"), .ref (cl "NoLine"), _, rfl, fun u z => z, ki "NoLine" (by decide), ?_⟩
    walk_at "goz"
    refine ⟨.ref (cl "TooMuch"), .ref (cl "TooMuch"), _, rfl, fun u z => z, ki "TooMuch" (by decide), ?_⟩
    walk_at "goz"
    refine ⟨.ref (cl "NothingDone"), .ref (cl "NothingDone"), _, rfl, fun u z => z, ki "NothingDone" (by decide), ?_⟩
    walk_at "goz"
    generalize hb4 : [decide (n = "NoLine"), decide (n = "TooMuch"), decide (n = "NothingDone")] = B4 at ct
    intro t4 g4
    have s4 := same_new (o := .lst [V.bl (decide (n = "NoLine")), .bl (decide (n = "TooMuch")), .bl (decide (n = "NothingDone"))]) g4
    have e4 : upd H3 t4 (.lst [V.bl (decide (n = "NoLine")), .bl (decide (n = "TooMuch")), .bl (decide (n = "NothingDone"))]) t4 = some (.lst (B4.map V.bl)) := by rw [← hb4]; exact upd_same
    have l4 : B4.length = 3 := by rw [← hb4]; rfl
    have f3 := s4 _ _ e3
    generalize upd H3 t4 _ = H4 at *
    walk_at "goz"
    refine ⟨_, _, _, _, rfl, rfl, f3, e4, Evl.sz_of (by simp; omega), fun t5 g5 => ?_⟩
    rw [← List.map_append]
    have s5 := same_new (o := .lst ((B1 ++ B2 ++ B4).map V.bl)) g5
    have e5 : upd H4 t5 (.lst ((B1 ++ B2 ++ B4).map V.bl)) t5 = _ := upd_same
    generalize upd H4 t5 _ = H5 at *
    walk_at "goz"
    refine ⟨.ty "ValueError", .type "ValueError", true, rfl, fun u z => z, E10.v n hn, ?_⟩
    walk_at "goz"
    refine ⟨.inl ⟨rfl, _, SqL.of e5⟩, ?_⟩
    walk_at "goz"
    refine ⟨t5, _, true, rfl, rfl, SqL.of e5, ?_⟩
    rw [ct]
    walk_at "goz"
    show Q (.bl (decide (V.int ((1 : Nat) : Int) = V.int 1))) H5
    rw [show decide (V.int ((1 : Nat) : Int) = V.int 1) = true from decide_eq_true rfl]
    exact q H5 (((s1.trans s2).trans s3).trans (s4.trans s5))
end
section
variable {P : Program} {w : World} {K : PySem.W.Frag} {mg : Str → Option Value} {base : Heap}
open NumText TL
/-! ### the program's texts: numbers, items, lines, deeds read -/
theorem bfalse' {b : Bool} (h : ¬ b = true) : b = false := Bool.eq_false_iff.mpr h
abbrev N_is_item : List Str := ["text", "sign"]
abbrev P_is_item : List Str := ["text"]
theorem sc_is_item : FnScope N_is_item P_is_item (defScope s_is_item) := ⟨rfl, rfl, rfl, by decide +kernel, rfl, by decide +kernel, by decide +kernel⟩
def sp_is_item : Sp := fun vs H Q _ => ∃ z : Str, vs = [.str z] ∧ Plain z ∧ ∀ H', Same H H' → Q (.bl (itemOk z)) H'
theorem c_is_item (T : Blt mg) (T2 : Bl2 mg) (CS : ConT mg) (D : DefAt K mg "is_item" s_is_item P_is_item) : Cal P w K mg base CX0 1 "is_item" P_is_item sp_is_item := by
  refine cal_of D sc_is_item (fun vs H Q E h => ?_) (fun f cdv A outer s H vs Q E hr h => ?_)
  · obtain ⟨z, rfl, _⟩ := h
    rfl
  · obtain ⟨z, rfl, hz, q⟩ := h
    have hz := hz.l
    refine ⟨_, (pss_one (ps_ret (pe_and (pe_chain op_le op_le pe_int (pe_callB call_len_str (by rfl) T.m_len PySem.boot_len (pa_cons (pv 0) pa_nil)) (pe_gint CS.k_MOST_LETTERS)) (pe_one (pe_callB (kc_all K rfl) (by rfl) T2.m_all (by decide +kernel) (pa_cons (pe_lc (own := [("sign", 1)]) (g := gName 1) (tt := tYes) rfl sc_is_item.nd (pi_str (pv 0)) (blkOk_by (N := N_is_item) (sc := defScope s_is_item) (by decide +kernel)) (fun _ _ _ _ _ => pg_name (i := 1) sc_is_item.nd rfl (Or.inl rfl)) (fun _ _ _ _ _ => pts_nil) (fun _ _ _ _ _ => (pe_chain op_le_str op_le_str pe_str (pv 1) pe_str))) pa_nil)))))), ?_⟩
    have hz2 : z.length ≤ sizeLine := Evl.sz_of (by omega)
    walk_at "gop"
    have e0 : itemOk z = (decide ((1 : Int) ≤ (z.length : Nat)) && (decide (((z.length : Nat) : Int) ≤ 12) && z.cps.toList.all fun c => decide (97 ≤ c) && decide (c ≤ 122))) := by
      unfold itemOk
      rw [show decide ((1 : Int) ≤ (z.length : Nat)) = decide (1 ≤ z.length) from decide_eq_decide.mpr (by omega), show decide (((z.length : Nat) : Int) ≤ 12) = decide (z.length ≤ 12) from decide_eq_decide.mpr (by omega), Bool.and_assoc]
    rw [e0] at q
    refine ite2 (fun h => ?_) (fun h => ?_)
    rotate_left
    · rw [bfalse' h] at q
      walk_at "gop"
      exact q H (Same.refl _)
    rw [h] at q
    walk_at "gop"
    refine ite2 (fun h => ?_) (fun h => ?_)
    rotate_left
    · rw [bfalse' h] at q
      exact q H (Same.refl _)
    rw [h] at q
    walk_at "gop"
    intro D1 h1
    refine lcS_bool (fun c => decide (97 ≤ c) && decide (c ≤ 122)) (by omega) h1 (fun k H2 R s2 r => ?_) (fun H2 s2 e2 => ?_)
    · walk_at "gop"
      refine ite2 (fun h => ?_) (fun h => ?_)
      · have h : k < 97 := lt_sign.mp (of_decide_eq_true h)
        rw [decide_eq_false (show ¬ 97 ≤ k by omega)] at r
        exact r
      · have h : ¬ k < 97 := fun z => h (decide_eq_true (lt_sign.mpr z))
        rw [decide_eq_true (show 97 ≤ k by omega), Bool.true_and] at r
        walk_at "gop"
        rw [show (("z" : Str)).cps.toList = [122] from rfl, show ((⟨#[k]⟩ : Str)).cps.toList = [k] from rfl, le_sign]
        exact r
    walk_at "gop"
    refine ⟨D1, _, rfl, SqL.of e2, ?_⟩
    rw [List.all_map]
    exact q H2 s2
abbrev N__is_number : List Str := ["text", "sign"]
abbrev P__is_number : List Str := ["text"]
theorem sc__is_number : FnScope N__is_number P__is_number (defScope s__is_number) := ⟨rfl, rfl, rfl, by decide +kernel, rfl, by decide +kernel, by decide +kernel⟩
def sp_is_number : Sp := fun vs H Q _ => ∃ z : Str, vs = [.str z] ∧ Plain z ∧ ∀ H', Same H H' → Q (.bl (numB z)) H'
theorem c__is_number (T : Blt mg) (T2 : Bl2 mg) (CS : ConT mg) (D : DefAt K mg "_is_number" s__is_number P__is_number) : Cal P w K mg base CX0 1 "_is_number" P__is_number sp_is_number := by
  refine cal_of D sc__is_number (fun vs H Q E h => ?_) (fun f cdv A outer s H vs Q E hr h => ?_)
  · obtain ⟨z, rfl, _⟩ := h
    rfl
  · obtain ⟨z, rfl, hz, q⟩ := h
    have hz := hz.l
    refine ⟨_, (pss_cons (ps_if (pt_cmpR op_eq (pv 0) pe_str (nomark _))
        (pss_one (ps_ret pe_bl))
        pss_nil)
      (pss_cons (ps_if (PW.pt (pw_or (pt_not (pt_chain op_le op_le pe_int (pe_callB call_len_str (by rfl) T.m_len PySem.boot_len (pa_cons (pv 0) pa_nil)) (pe_gint CS.k_MOST_FIGURES))) (pw_or1 (pt_cmpR op_eq (pe_ix ix_str (pv 0) pe_int (fun _ _ => rfl)) pe_str (nomark _)))))
        (pss_one (ps_ret pe_bl))
        pss_nil)
      (pss_one (ps_ret (pe_callB (kc_all K rfl) (by rfl) T2.m_all (by decide +kernel) (pa_cons (pe_lc (own := [("sign", 1)]) (g := gName 1) (tt := tYes) rfl sc__is_number.nd (pi_str (pv 0)) (blkOk_by (N := N__is_number) (sc := defScope s__is_number) (by decide +kernel)) (fun _ _ _ _ _ => pg_name (i := 1) sc__is_number.nd rfl (Or.inl rfl)) (fun _ _ _ _ _ => pts_nil) (fun _ _ _ _ _ => (pe_chain op_le_str op_le_str pe_str (pv 1) pe_str))) pa_nil)))))), ?_⟩
    have hz2 : z.length ≤ sizeLine := Evl.sz_of (by omega)
    walk_at "gop"
    refine ite2 (fun h => ?_) (fun h => ?_)
    · walk_at "gop"
      have e : numB z = true := by
        unfold numB
        rw [decide_eq_true (str_yes h)]
        rfl
      rw [e] at q
      exact q H (Same.refl _)
    have e0 : numB z = (decide (1 ≤ z.length) && decide (z.length ≤ 30) && !decide (z.cps.toList.head? = some 48) && z.cps.toList.all fun c => decide (48 ≤ c) && decide (c ≤ 57)) := by
      unfold numB
      rw [decide_eq_false (str_not h)]
      rfl
    walk_at "gop"
    refine ite2 (fun h1 => ?_) (fun h1 => ?_)
    rotate_left
    · have h1 := of_decide_eq_false (bfalse' h1)
      rw [e0, decide_eq_false (show ¬ 1 ≤ z.length by omega)] at q
      walk_at "gop"
      exact q H (Same.refl _)
    have h1 := of_decide_eq_true h1
    walk_at "gop"
    refine ite2 (fun h2 => ?_) (fun h2 => ?_)
    rotate_left
    · have h2 := of_decide_eq_false (bfalse' h2)
      rw [e0, decide_eq_false (show ¬ z.length ≤ 30 by omega), Bool.and_false] at q
      walk_at "gop"
      exact q H (Same.refl _)
    have h2 := of_decide_eq_true h2
    obtain ⟨c, r, ec⟩ : ∃ c r, z.cps.toList = c :: r := by
      cases e : z.cps.toList with
      | nil => rw [len_cps, e] at h1; simp at h1
      | cons c r => exact ⟨c, r, rfl⟩
    walk_at "gop"
    refine ⟨z, _, c, rfl, rfl, hz2, by rw [ec]; exact atI_nat (j := 0) rfl, ?_⟩
    walk_at "gop"
    refine ite2 (fun h3 => ?_) (fun h3 => ?_)
    · have h3 := str_yes h3
      have h3 : c = 48 := by
        have := congrArg (fun z : Str => z.cps.toList) h3
        exact List.head_eq_of_cons_eq this
      rw [e0, ec, h3, show decide ((48 :: r).head? = some 48) = true from rfl, Bool.not_true, Bool.and_false] at q
      walk_at "gop"
      exact q H (Same.refl _)
    have h3 : ¬ c = 48 := fun e => str_not h3 (by rw [e]; rfl)
    rw [e0, ec, decide_eq_true (show 1 ≤ z.length by omega), decide_eq_true (show z.length ≤ 30 by omega), decide_eq_false (show ¬ ((c :: r).head? = some 48) by simpa using h3), ← ec] at q
    walk_at "gop"
    intro D1 h1
    refine lcS_bool (fun c => decide (48 ≤ c) && decide (c ≤ 57)) (by omega) h1 (fun k H2 R s2 r => ?_) (fun H2 s2 e2 => ?_)
    · walk_at "gop"
      refine ite2 (fun h => ?_) (fun h => ?_)
      · have h : k < 48 := lt_sign.mp (of_decide_eq_true h)
        rw [decide_eq_false (show ¬ 48 ≤ k by omega)] at r
        exact r
      · have h : ¬ k < 48 := fun z => h (decide_eq_true (lt_sign.mpr z))
        rw [decide_eq_true (show 48 ≤ k by omega), Bool.true_and] at r
        walk_at "gop"
        rw [show (("9" : Str)).cps.toList = [57] from rfl, show ((⟨#[k]⟩ : Str)).cps.toList = [k] from rfl]
        rw [show decide (k ≤ 57) = !decide (57 < k) by by_cases h : k ≤ 57 <;> simp [h] <;> omega] at r
        rw [show decide (([57] : List Nat) < [k]) = decide (57 < k) from decide_eq_decide.mpr lt_sign]
        exact r
    walk_at "gop"
    refine ⟨D1, _, rfl, SqL.of e2, ?_⟩
    rw [List.all_map]
    exact q H2 s2
abbrev N__number : List Str := ["text"]
abbrev P__number : List Str := ["text"]
theorem sc__number : FnScope N__number P__number (defScope s__number) := ⟨rfl, rfl, rfl, by decide +kernel, rfl, by decide +kernel, by decide +kernel⟩
def sp_number (cl : Str → Addr) : Sp := fun vs H Q E => ∃ z : Str, vs = [.str z] ∧ Plain z ∧ (∀ n, numOf z = some n → ∀ H', Same H H' → Q (.int n) H') ∧ (numOf z = none → ∀ H', Same H H' → E (.ref (cl "NoDeed")) none H')
theorem numB_int {z : Str} (h : numB z = true) : PySem.intText? z = some ((digitsVal z.cps.toList : Nat) : Int) ∧ z.length ≤ 30 := by
  unfold numB at h
  rw [Bool.or_eq_true, decide_eq_true_eq] at h
  rcases h with rfl | h
  · refine ⟨intText_digits (fun c hc => ?_) (by decide +kernel) (by decide +kernel), by decide +kernel⟩
    rw [show (("0" : Str)).cps.toList = [48] by decide +kernel] at hc
    rw [List.mem_singleton.mp hc]
    omega
  · simp only [Bool.and_eq_true, decide_eq_true_eq, List.all_eq_true] at h
    obtain ⟨⟨⟨h1, h2⟩, h3⟩, h4⟩ := h
    refine ⟨intText_digits (fun c hc => h4 c hc) (fun e => ?_) (by omega), h2⟩
    rw [len_cps, e] at h1
    simp at h1
theorem c__number {cl : Str → Addr} (T : Blt mg) (ER : NoD K mg cl) (c__is_number : Cal P w K mg base CX0 1 "_is_number" P__is_number sp_is_number) (D : DefAt K mg "_number" s__number P__number) : Cal P w K mg base (L2.CX P w) 2 "_number" P__number (sp_number cl) := by
  refine cal_ofX D sc__number (fun vs H Q E h => ?_) (fun f cdv A outer s H vs Q E hr h => ?_)
  · obtain ⟨z, rfl, _⟩ := h
    rfl
  · obtain ⟨z, rfl, hz, q, qe⟩ := h
    refine ⟨_, (pss_cons (ps_if (pt_not (pt_val (pe_cal c__is_number (hr.mono (by decide)) pass0 (pa_cons (pv 0) pa_nil))))
        (pss_one (ps_raise rfl (takes_of rfl rfl rfl rfl) (ER.pmk "NoDeed" (by decide))))
        pss_nil)
      (pss_one (ps_ret (pe_callTy call_int_str (by rfl) T.m_int PyProof.Rows.boot_int (pa_cons (pv 0) pa_nil))))), ?_⟩
    walk_at "gop"
    intro H1 s1
    walk_at "gop"
    unfold numOf at q qe
    refine ite2 (fun h => ?_) (fun h => ?_)
    rotate_left
    · rw [if_neg h] at qe
      walk_at "gop"
      exact qe rfl H1 s1
    rw [if_pos h] at q
    obtain ⟨e1, e2⟩ := numB_int h
    walk_at "gop"
    exact ⟨z, _, rfl, e1, by omega, q _ rfl H1 s1⟩
abbrev N__line : List Str := ["text", "parts", "item", "pieces", "cents", "pack"]
abbrev P__line : List Str := ["text"]
theorem sc__line : FnScope N__line P__line (defScope s__line) := ⟨rfl, rfl, rfl, by decide +kernel, rfl, by decide +kernel, by decide +kernel⟩
def sp_line (K : PySem.W.Frag) (cl : Str → Addr) : Sp := fun vs H Q E => ∃ (fp : Addr → Prop) (z : Str), vs = [.str z] ∧ Plain z ∧ Has fp H ∧ (∀ t, lineOf z = some t → ∀ y H', Same H H' → Dp K (off fp H') y (lineD t) → Q y H') ∧ (lineOf z = none → ∀ H', Same H H' → E (.ref (cl "NoDeed")) none H')
theorem blank_ne : TL.tl (" " : Str) ≠ [] := by rw [blank_cps]; simp
theorem split_sz {z : Str} (h : Plain z) (y : Str) : (Txt.split z y).length ≤ 90002 := by
  have := PyProof.Rows.split_le z y
  have := h.l
  omega
theorem c__line {cl : Str → Addr} (T : Blt mg) (ER : NoD K mg cl) (c_is_item : Cal P w K mg base CX0 1 "is_item" P_is_item sp_is_item) (c__number : Cal P w K mg base (L2.CX P w) 2 "_number" P__number (sp_number cl)) (D : DefAt K mg "_line" s__line P__line) :
    Cal P w K mg base (L2.CX P w) 3 "_line" P__line (sp_line K cl) := by
  refine cal_ofX D sc__line (fun vs H Q E h => ?_) (fun f cdv A outer s H vs Q E hr h => ?_)
  · obtain ⟨fp, z, rfl, _⟩ := h
    rfl
  · obtain ⟨fp, z, rfl, hz, hf, q, qe⟩ := h
    have hp4 := split_plain blank_ne (by decide +kernel) hz
    have sl := split_sz hz " "
    unfold lineOf at q qe
    refine ⟨_, (pss_cons (ps_set (i := 1) sc__line.nd rfl (Or.inl rfl) (pe_split (pv 0) pe_str))
      (pss_cons (ps_if (PW.pt (pw_or (pt_cmpR op_ne (pe_callB (kc_len K) (by rfl) T.m_len PySem.boot_len (pa_cons (pv 1) pa_nil)) pe_int (nomark _)) (pw_or1 (pt_not (pt_val (pe_cal c_is_item (hr.mono (by decide)) pass0 (pa_cons (pe_ix (kx_list K) (pv 1) pe_int (fun _ _ => rfl)) pa_nil)))))))
        (pss_one (ps_raise rfl (takes_of rfl rfl rfl rfl) (ER.pmk "NoDeed" (by decide))))
        pss_nil)
      (pss_cons (ps_asg (pv 1) (pg_unl rfl (pgs_cons (pg_name (i := 2) sc__line.nd rfl (Or.inl rfl)) (pgs_cons (pg_name (i := 3) sc__line.nd rfl (Or.inl rfl)) (pgs_cons (pg_name (i := 4) sc__line.nd rfl (Or.inl rfl)) (pgs_cons (pg_name (i := 5) sc__line.nd rfl (Or.inl rfl)) pgs_nil))))))
      (pss_one (ps_ret (pe_tup (pa_cons (pv 2) (pa_cons (pe_cal c__number (hr.mono (by decide)) (passes_call (takes_of rfl rfl rfl rfl) fun _ _ _ _ z => z) (pa_cons (pv 3) pa_nil)) (pa_cons (pe_cal c__number (hr.mono (by decide)) (passes_call (takes_of rfl rfl rfl rfl) fun _ _ _ _ z => z) (pa_cons (pv 4) pa_nil)) (pa_cons (pe_cal c__number (hr.mono (by decide)) (passes_call (takes_of rfl rfl rfl rfl) fun _ _ _ _ z => z) (pa_cons (pv 5) pa_nil)) pa_nil)))))))))), ?_⟩
    walk_at "gop"
    refine ⟨Evl.sz_of (by have := hz.l; omega), fun p hp => ?_⟩
    generalize Txt.split z " " = L at *
    have s1 : Same H (upd H p (.lst (L.map V.str))) := same_new hp
    have e1 : upd H p (.lst (L.map V.str)) p = some (.lst (L.map V.str)) := upd_same
    generalize upd H p (.lst (L.map V.str)) = H1 at *
    walk_at "gop"
    have no : line4 L = none → ∀ H', Same H1 H' → E (.ref (cl "NoDeed")) none H' := fun e H' s => qe e H' (s1.trans s)
    rw [List.length_map]
    refine ite2 (fun h => ?_) (fun h => ?_)
    rotate_left
    · walk_at "gop"
      refine no ?_ H1 (Same.refl _)
      have h : ¬ L.length = 4 := fun e => h (decide_eq_true (by rw [e]; rfl))
      match L, h with
      | [], _ => rfl
      | [_], _ => rfl
      | [_, _], _ => rfl
      | [_, _, _], _ => rfl
      | [_, _, _, _], h => exact absurd rfl h
      | _ :: _ :: _ :: _ :: _ :: _, _ => rfl
    have h : L.length = 4 := by
      have := V.int.inj (of_decide_eq_true h)
      omega
    obtain ⟨a, b, c, d, rfl⟩ : ∃ a b c d, L = [a, b, c, d] := by
      match L, h with
      | [a, b, c, d], _ => exact ⟨a, b, c, d, rfl⟩
    have e4 : line4 [a, b, c, d] = if itemOk a = true then (match numOf b, numOf c, numOf d with | some p, some q, some r => some ⟨a, p, q, r⟩ | _, _, _ => none) else none := rfl
    rw [e4] at q no
    have pa := hp4 a (by simp)
    have pb := hp4 b (by simp)
    have pc := hp4 c (by simp)
    have pd := hp4 d (by simp)
    have i0 : atI ([a, b, c, d].map V.str) 0 = some (V.str a) := atI_nat (j := 0) rfl
    walk_at "gop"
    intro H2 s2
    have e2 := s2 _ _ e1
    have f2 := hf.same (s1.trans s2)
    walk_at "gop"
    refine ite2 (fun h => ?_) (fun h => ?_)
    rotate_left
    · rw [if_neg h] at no
      walk_at "gop"
      exact no rfl H2 s2
    rw [if_pos h] at no q
    walk_at "gop"
    refine ⟨p, _, rfl, SqL.of e2, rfl, ?_⟩
    walk_at "gop"
    refine ⟨fun n1 en1 H3 s3 => ?_, fun en1 H3 s3 => no (by rw [en1]) H3 (s2.trans s3)⟩
    walk_at "gop"
    refine ⟨fun n2 en2 H4 s4 => ?_, fun en2 H4 s4 => no (by rw [en1, en2]) H4 ((s2.trans s3).trans s4)⟩
    walk_at "gop"
    refine ⟨fun n3 en3 H5 s5 => ?_, fun en3 H5 s5 => no (by rw [en1, en2, en3]) H5 (((s2.trans s3).trans s4).trans s5)⟩
    walk_at "gop"
    intro t ht
    have s6 := ((s1.trans s2).trans s3).trans (s4.trans s5)
    exact q ⟨a, n1, n2, n3⟩ (by rw [en1, en2, en3]) _ _ (s6.trans (same_new ht)) (dp_tup_new (hf.same s6) ht (.cons (.str _) (.cons (.int _) (.cons (.int _) (.cons (.int _) .nil)))))
abbrev N_read : List Str := ["text", "word", "_", "rest", "parts", "numbers", "part"]
abbrev P_read : List Str := ["text"]
theorem sc_read : FnScope N_read P_read (defScope s_read) := ⟨rfl, rfl, rfl, by decide +kernel, rfl, by decide +kernel, by decide +kernel⟩
theorem shaped_pair' {x : Str} {n : Int} (h : PyData.strOk x = true) : SeqAt.shaped (.tuple [.str x, .int n]) = true := shaped_fl (n := 1) (by show (_ && _) = true; rw [Bool.and_eq_true]; exact ⟨h, rfl⟩)
theorem shaped_deeds' : SeqAt.shaped (.tuple deedsT) = true := by decide +kernel
def sp_read (K : PySem.W.Frag) (cl : Str → Addr) : Sp := fun vs H Q E => ∃ (fp : Addr → Prop) (z : Str), vs = [.str z] ∧ Plain z ∧ Has fp H ∧ (∀ d, deedOf z = some d → ∀ y H', Same H H' → Dp K (off fp H') y d.d → Q y H') ∧ (deedOf z = none → ∀ H', Same H H' → E (.ref (cl "NoDeed")) none H')
theorem c_read {cl : Str → Addr} {aD : Addr} (T : Blt mg) (ER : NoD K mg cl) (TP : DTup K mg aD) (c__line : Cal P w K mg base (L2.CX P w) 3 "_line" P__line (sp_line K cl)) (c__number : Cal P w K mg base (L2.CX P w) 2 "_number" P__number (sp_number cl)) (D : DefAt K mg "read" s_read P_read) :
    Cal P w K mg base (L2.CX P w) 4 "read" P_read (sp_read K cl) := by
  refine cal_ofX D sc_read (fun vs H Q E h => ?_) (fun f cdv A outer s H vs Q E hr h => ?_)
  · obtain ⟨fp, z, rfl, _⟩ := h
    rfl
  · obtain ⟨fp, z, rfl, hz, hf, q, qe⟩ := h
    refine ⟨_, (pss_cons (ps_asg (pe_partition (pv 0) pe_str) (pg_tup rfl (pgs_cons (pg_name (i := 1) sc_read.nd rfl (Or.inl rfl)) (pgs_cons (pg_name (i := 2) sc_read.nd rfl (Or.inl rfl)) (pgs_cons (pg_name (i := 3) sc_read.nd rfl (Or.inl rfl)) pgs_nil)))))
      (pss_cons (ps_if (pt_cmpR op_eq (pv 1) pe_str (nomark _))
        (pss_one (ps_ret (pe_tup (pa_cons pe_str (pa_cons (pe_lcX (own := [("part", 6)]) (g := gName 6) (tt := tYes) rfl rfl rfl sc_read.nd (takes_of rfl rfl rfl rfl) (fun _ _ _ _ z => z) (ki_list K (pe_split (pv 3) pe_str)) (blkOk_by (N := N_read) (sc := defScope s_read) (by decide +kernel)) (fun _ _ _ _ _ => pg_name (i := 6) sc_read.nd rfl (Or.inl rfl)) (fun _ _ _ _ _ => pts_nil) (fun _ _ _ _ _ hp => (pe_cal c__line (hr.mono (by decide)) hp (pa_cons (pv 6) pa_nil)))) pa_nil)))))
        pss_nil)
      (pss_cons (ps_set (i := 4) sc_read.nd rfl (Or.inl rfl) (pe_split (pv 0) pe_str))
      (pss_cons (ps_if (pt_cmpR (ko_notInDT K hr.units65) (pe_tup (pa_cons (pv 1) (pa_cons (pe_callB (kc_len K) (by rfl) T.m_len PySem.boot_len (pa_cons (pv 4) pa_nil)) pa_nil))) (pe_glob (v := .ref aD) (by rfl) TP.gD rfl) (by rfl))
        (pss_one (ps_raise rfl (takes_of rfl rfl rfl rfl) (ER.pmk "NoDeed" (by decide))))
        pss_nil)
      (pss_cons (ps_setLcX (i := 5) (own := [("part", 6)]) (g := gName 6) (tt := tYes) rfl rfl rfl sc_read.nd (takes_of rfl rfl rfl rfl) (fun _ _ _ _ z => z) rfl rfl (sw_true rfl rfl rfl (by decide +kernel)) (ki_list K (pe_slice (ks_list K) (pv 4) (po_some pe_int) po_none)) (blkOk_by (N := N_read) (sc := defScope s_read) (by decide +kernel)) (fun _ _ _ _ _ => pg_name (i := 6) sc_read.nd rfl (Or.inl rfl)) (fun _ _ _ _ _ => pts_nil) (fun _ _ _ _ _ hp => (pe_cal c__number (hr.mono (by decide)) hp (pa_cons (pv 6) pa_nil))))
      (pss_one (ps_ret (pe_tup (pa_cons (pv 1) (StX.pa_star (pv 5) pa_nil)))))))))), ?_⟩
    obtain ⟨pw, pr⟩ := partition_plain (y := " ") blank_ne hz
    have zl := hz.l
    unfold deedOf at q qe
    walk_at "gop"
    refine ⟨Evl.sz_of (by omega), fun p hp => ?_⟩
    have s1 := same_new (o := .tup [V.str (Txt.partition z " ").1, V.str (Txt.partition z " ").2.1, V.str (Txt.partition z " ").2.2]) hp
    have e1 : upd H p (.tup [V.str (Txt.partition z " ").1, V.str (Txt.partition z " ").2.1, V.str (Txt.partition z " ").2.2]) p = _ := upd_same
    generalize upd H p (.tup [V.str (Txt.partition z " ").1, V.str (Txt.partition z " ").2.1, V.str (Txt.partition z " ").2.2]) = H1 at *
    generalize (Txt.partition z " ").1 = wd at *
    generalize (Txt.partition z " ").2.1 = mi at *
    generalize (Txt.partition z " ").2.2 = rs at *
    refine ⟨p, _, rfl, SqT.of e1, rfl, ?_⟩
    walk_at "gop"
    refine ite2 (fun h => ?_) (fun h => ?_)
    · have h := str_yes h
      rw [if_pos h] at q qe
      have hrp := split_plain (y := ", ") (by rw [comma_cps]; simp) (by decide +kernel) pr
      have sl := split_sz pr ", "
      have rl := pr.l
      walk_at "gop"
      refine ⟨Evl.sz_of (by omega), fun p2 hp2 => ?_⟩
      have s2 := s1.trans (same_new (o := .lst ((Txt.split rs ", ").map V.str)) hp2)
      have e2 : upd H1 p2 (.lst ((Txt.split rs ", ").map V.str)) p2 = _ := upd_same
      generalize upd H1 p2 (.lst ((Txt.split rs ", ").map V.str)) = H2 at *
      generalize Txt.split rs ", " = L at *
      walk_at "gop"
      refine ⟨⟨_, SqL.of e2⟩, fun D hD => ?_⟩
      refine lcR_list (fp := fp) lineOf lineD L (by omega) (SqL.of e2) hD (hf.same s2) (fun x H8 R hx s8 f8 k => ?_) (fun bs H8 ys hb s8 hd8 r8 d8 => ?_)
      · walk_at "gop"
        exact ⟨And1 fp D, x, rfl, hrp x hx, f8, fun t et y H9 s9 dy => k t y H9 et s9 dy, fun e H9 s9 => qe (by rw [seqO_bad hx e]; rfl) H9 ((s2.trans s8).trans s9)⟩
      · walk_at "gop"
        intro t ht
        have s3 := s2.trans s8
        exact q (.ord bs) (by rw [hb]; rfl) _ _ (s3.trans (same_new ht)) (dp_tup_new (hf.same s3) ht (.cons (.str _) (.cons d8 .nil)))
    · have h := str_not h
      rw [if_neg h] at q qe
      have hrp := split_plain blank_ne (by decide +kernel) hz
      have sl := split_sz hz " "
      walk_at "gop"
      refine ⟨Evl.sz_of (by omega), fun p2 hp2 => ?_⟩
      have s2 := s1.trans (same_new (o := .lst ((Txt.split z " ").map V.str)) hp2)
      have e2 : upd H1 p2 (.lst ((Txt.split z " ").map V.str)) p2 = _ := upd_same
      generalize upd H1 p2 (.lst ((Txt.split z " ").map V.str)) = H2 at *
      generalize Txt.split z " " = L at *
      walk_at "gop"
      intro t ht
      rw [List.length_map]
      have s3 := s2.trans (same_new (o := .tup [V.str wd, V.int (L.length : Nat)]) ht)
      have e3 : upd H2 t (.tup [V.str wd, V.int (L.length : Nat)]) t = _ := upd_same
      have e23 := same_new (o := .tup [V.str wd, V.int (L.length : Nat)]) ht _ _ e2
      generalize upd H2 t (.tup [V.str wd, V.int (L.length : Nat)]) = H3 at *
      walk_at "gop"
      refine ⟨.tuple [.str wd, .int (L.length : Nat)], deedsT, .tup (SqT.of e3) (.cons (.str _) (.cons (.int _) .nil)), TP.dD _, shaped_pair' pw.ok, shaped_deeds', ?_⟩
      rw [deeds_any]
      by_cases hw : partsOf wd = some L.length
      rotate_left
      · rw [decide_eq_false hw]
        rw [if_neg hw] at qe
        walk_at "gop"
        exact qe rfl H3 s3
      rw [decide_eq_true hw]
      rw [if_pos hw] at q qe
      walk_at "gop"
      refine ⟨p2, _, rfl, SqL.of e23, fun p4 hp4 => ?_⟩
      have cut : cutV (L.map V.str) (some 1) none = L.tail.map V.str := by
        unfold cutV
        rw [List.length_map, HT.sIx_none, show (1 : Int) = ((1 : Nat) : Int) from rfl, HT.sIx_nat, ← List.drop_one, List.map_drop]
        rcases Nat.lt_or_ge L.length 1 with z | z
        · rw [Nat.min_eq_right (by omega), List.drop_eq_nil_of_le (by simp), List.drop_eq_nil_of_le (by simp; omega)]; simp
        · rw [Nat.min_eq_left z, List.take_of_length_le (by simp)]
      rw [cut]
      have s4 := s3.trans (same_new (o := .lst (L.tail.map V.str)) hp4)
      have e4 : upd H3 p4 (.lst (L.tail.map V.str)) p4 = _ := upd_same
      generalize upd H3 p4 (.lst (L.tail.map V.str)) = H4 at *
      walk_at "gop"
      refine ⟨⟨_, SqL.of e4⟩, fun D hD => ?_⟩
      refine lcR_list (fp := fp) numOf PyData.int L.tail (by rw [List.length_tail]; omega) (SqL.of e4) hD (hf.same s4) (fun x H8 R hx s8 f8 k => ?_) (fun bs H8 ys hb s8 hd8 r8 d8 => ?_)
      · walk_at "gop"
        exact ⟨hrp x (List.mem_of_mem_tail hx), fun n en H9 s9 => k n _ H9 en s9 (.int _), fun e H9 s9 => qe (by rw [seqO_bad hx e]; rfl) H9 ((s4.trans s8).trans s9)⟩
      · have e5 := dpAll_ints_inv r8
        subst e5
        have s5 := s4.trans s8
        walk_at "gop"
        refine ⟨D, _, rfl, .inr (SqL.of hd8), ?_⟩
        have bl := seqO_len hb
        rw [List.length_tail] at bl
        show (V.str wd :: (bs.map V.int ++ [])).length ≤ sizeLine ∧ _
        rw [List.append_nil]
        refine ⟨Evl.sz_of (by rw [List.length_cons, List.length_map]; omega), fun t2 ht2 => ?_⟩
        exact q (.num wd bs) (by rw [hb]; rfl) _ _ (s5.trans (same_new ht2)) (dp_tup_new (hf.same s5) ht2 (.cons (.str _) (dpAll_ints bs)))
end
section
variable {P : Program} {w : World} {K : PySem.W.Frag} {mg : Str → Option Value} {base : Heap}
open NumText TL
/-! ### the program's texts: deeds written -/
/-- a part of a deed or of a line, as a text -/
def vT : V → Str
  | .str z => z
  | .int n => numT n
  | _ => Str.empty
def PartV (x : V) : Prop := (∃ z, x = .str z ∧ z.length ≤ 1000) ∨ ∃ n, x = .int n ∧ Fig n
theorem PartV.len {x : V} (h : PartV x) : (vT x).length ≤ 1000 := by
  rcases h with ⟨z, rfl, h⟩ | ⟨n, rfl, h⟩
  · exact h
  · exact Nat.le_trans (numT_len h.1 h.2) (by decide)
theorem join_sz {y : Str} {ps : List Str} (hy : y.length ≤ 2) (h : ∀ p ∈ ps, p.length ≤ 1000) (hl : ps.length ≤ 1000) : (ps.map (·.length)).sum + ps.length * y.length ≤ 16777216 := by
  have := sum_le (k := 1000) (ns := ps.map (·.length)) (fun n hn => by
    obtain ⟨p, hp, rfl⟩ := List.mem_map.mp hn
    exact h p hp)
  rw [List.length_map] at this
  have h2 : ps.length * y.length ≤ ps.length * 2 := Nat.mul_le_mul_left _ hy
  omega
theorem blank_len : ((" " : Str)).length ≤ 2 := by decide +kernel
theorem comma_len : ((", " : Str)).length ≤ 2 := by decide +kernel
theorem line_vT {t : LineT} : Txt.join " " ([V.str t.item, .int t.pieces, .int t.cents, .int t.pack].map vT) = lineT t := rfl
theorem line_parts {t : LineT} (W : t.Wr) : ∀ x ∈ [V.str t.item, .int t.pieces, .int t.cents, .int t.pack], PartV x := by
  intro x hx
  simp only [List.mem_cons, List.not_mem_nil, or_false] at hx
  rcases hx with rfl | rfl | rfl | rfl
  · exact .inl ⟨_, rfl, by have := item_len W.i; omega⟩
  · exact .inr ⟨_, rfl, W.p⟩
  · exact .inr ⟨_, rfl, W.c⟩
  · exact .inr ⟨_, rfl, W.k⟩
theorem num_vT {w : Str} {ns : List Int} : Txt.join " " ((V.str w :: ns.map V.int).map vT) = textOf (.num w ns) := by
  unfold textOf
  rw [List.map_cons, List.map_map]
  rfl
theorem num_parts {w : Str} {ns : List Int} (W : (TD.num w ns).Wr) : ∀ x ∈ V.str w :: ns.map V.int, PartV x := by
  obtain ⟨_, h1, h⟩ := W
  intro x hx
  rcases List.mem_cons.mp hx with rfl | hx
  · exact .inl ⟨_, rfl, by have := word_len h1; omega⟩
  · obtain ⟨n, hn, rfl⟩ := List.mem_map.mp hx
    exact .inr ⟨n, rfl, h n hn⟩
theorem td_num {H : Hp} {v : V} {w : Str} {ns : List Int} (h : Dp K H v (TD.num w ns).d) : ∃ p, v = .ref p ∧ SqT K H p (.str w :: ns.map V.int) := by
  obtain ⟨p, xs, rfl, s, h⟩ := dp_tuple h
  cases h with
  | cons h1 h2 =>
    rw [dp_str h1, dpAll_ints_inv h2] at s
    exact ⟨p, rfl, s⟩
theorem td_ord {H : Hp} {v : V} {ls : List LineT} (h : Dp K H v (TD.ord ls).d) : ∃ p q ys, v = .ref p ∧ SqT K H p [.str "order", .ref q] ∧ SqL K H q ys ∧ DpAll K H ys (ls.map lineD) := by
  obtain ⟨p, xs, rfl, s, h⟩ := dp_tuple h
  cases h with
  | cons h1 h2 =>
    cases h2 with
    | cons h2 h3 =>
      cases h3
      obtain ⟨q, ys, rfl, s2, h4⟩ := dp_list h2
      rw [dp_str h1] at s
      exact ⟨p, q, ys, rfl, s, s2, h4⟩
theorem td_line {H : Hp} {v : V} {t : LineT} (h : Dp K H v (lineD t)) : ∃ p, v = .ref p ∧ SqT K H p [.str t.item, .int t.pieces, .int t.cents, .int t.pack] := by
  obtain ⟨p, xs, rfl, s, h⟩ := dp_tuple h
  cases h with
  | cons h1 h => cases h with
    | cons h2 h => cases h with
      | cons h3 h => cases h with
        | cons h4 h =>
          cases h
          rw [dp_str h1, dp_int h2, dp_int h3, dp_int h4] at s
          exact ⟨p, rfl, s⟩
end
section
variable {P : Program} {w : World} {K : PySem.W.Frag} {mg : Str → Option Value} {base : Heap}
abbrev N_cell_at : List Str := ["_law_script", "_law_k"]
abbrev P_cell_at : List Str := ["_law_script", "_law_k"]
theorem sc_cell_at : FnScope N_cell_at P_cell_at (defScope s_cell_at) := ⟨rfl, rfl, rfl, by decide +kernel, rfl, by decide +kernel, by decide +kernel⟩
def cellAt (ns : List Int) (k : Nat) : Int := ns.getD k 0
def sp_cell_at (K : PySem.W.Frag) : Sp := fun vs H Q _ => ∃ (a : Addr) (ns : List Int) (k : Nat), vs = [.ref a, .int (k : Int)] ∧ SqL K H a (ns.map V.int) ∧ Q (.int (cellAt ns k)) H
theorem c_cell_at (T : Blt mg) (D : DefAt K mg "_law_cell_at" s_cell_at P_cell_at) : Cal P w K mg base CX0 1 "_law_cell_at" P_cell_at (sp_cell_at K) := by
  refine cal_of D sc_cell_at (fun vs H Q E h => ?_) (fun f cdv A outer s H vs Q E hr h => ?_)
  · obtain ⟨a, ns, k, rfl, _⟩ := h
    rfl
  · obtain ⟨a, ns, k, rfl, hS, q⟩ := h
    refine ⟨_, (pss_cons (ps_if (pt_cmpR op_lt (pv 1) (pe_callB (kc_len K) (by rfl) T.m_len PySem.boot_len (pa_cons (pv 0) pa_nil)) (nomark _))
        (pss_one (ps_ret (pe_ix (kx_list K) (pv 0) (pv 1) (fun _ _ => rfl))))
        pss_nil)
      (pss_one (ps_ret pe_int))), ?_⟩
    walk_at "go"
    refine ⟨a, _, rfl, Or.inl hS, ?_⟩
    walk_at "go"
    refine ite2 (fun h => ?_) (fun h => ?_)
    · have h := of_decide_eq_true h
      rw [List.length_map] at h
      have h' : k < ns.length := by omega
      walk_at "go"
      refine ⟨a, _, _, .int (cellAt ns k), rfl, rfl, hS, atI_nat ?_, q⟩
      rw [List.getElem?_map, List.getElem?_eq_getElem h']
      simp [cellAt, h']
    · have h : ¬ ((k : Int) < ((ns.map V.int).length : Nat)) := fun z => h (decide_eq_true z)
      rw [List.length_map] at h
      have e : cellAt ns k = 0 := by
        unfold cellAt
        rw [List.getD_eq_getElem?_getD, List.getElem?_eq_none (by omega)]
        rfl
      rw [e] at q
      exact q
/-- an int is whole -/
abbrev N_whole : List Str := ["_law_found"]
abbrev P_whole : List Str := ["_law_found"]
theorem sc_whole : FnScope N_whole P_whole (defScope s_whole) := ⟨rfl, rfl, rfl, by decide +kernel, rfl, by decide +kernel, by decide +kernel⟩
def sp_whole : Sp := fun vs H Q _ => ∃ (i : Int), vs = [.int i] ∧ Q (.bl true) H
theorem c_whole (T : Blt mg) (D : DefAt K mg "_law_whole" s_whole P_whole) : Cal P w K mg base CX0 1 "_law_whole" P_whole sp_whole := by
  refine cal_of D sc_whole (fun vs H Q E h => ?_) (fun f cdv A outer s H vs Q E hr h => ?_)
  · obtain ⟨i, rfl, _⟩ := h
    rfl
  · obtain ⟨i, rfl, q⟩ := h
    refine ⟨_, (pss_one (ps_ret (pe_and (pe_callB (kc_isi K) (by rfl) T.m_isinstance (by decide +kernel) (pa_cons (pv 0) (pa_cons (pe_bltn (v := .ty "int") (by rfl) T.m_int PyProof.Rows.boot_int rfl) pa_nil))) (pe_one (pe_not (pe_callB (kc_isi K) (by rfl) T.m_isinstance (by decide +kernel) (pa_cons (pv 0) (pa_cons (pe_bltn (v := .ty "bool") (by rfl) T.m_bool PyProof.Rows.boot_bool rfl) pa_nil)))))))), ?_⟩
    walk_at "go"
    refine ⟨_, _, _, _, _, rfl, .ty _, .base (.int i), kit_ty (r := true) (by decide +kernel), ?_⟩
    walk_at "go"
    walk_at "go"
    refine ⟨_, _, _, _, _, rfl, .ty _, .base (.int i), kit_ty (r := false) (by decide +kernel), ?_⟩
    exact ⟨_, rfl, q⟩
end
section
variable {P : Program} {w : World} {K : PySem.W.Frag} {mg : Str → Option Value} {base : Heap}
open NumText TL
/-! ### the law's texts: numbers and items drawn, deeds written, deeds alike -/
theorem sum_ones (cs : List Nat) : ((cs.map fun c => (⟨#[c]⟩ : Str)).map (·.length)).sum = cs.length := by
  induction cs with
  | nil => rfl
  | cons c r ih => rw [List.map_cons, List.map_cons, List.sum_cons, ih, List.length_cons]; show 1 + _ = _; omega
abbrev N_item_by : List Str := ["_law_cell", "_law_some", "_law_k"]
abbrev P_item_by : List Str := ["_law_cell"]
theorem sc_item_by : FnScope N_item_by P_item_by (defScope s_item_by) := ⟨rfl, rfl, rfl, by decide +kernel, rfl, by decide +kernel, by decide +kernel⟩
def sp_item_by : Sp := fun vs H Q _ => ∃ (c : Int), vs = [.int c] ∧ ∀ H' z, Same H H' → IsItem z → Q (.str z) H'
theorem c_item_by (T : Blt mg) (D : DefAt K mg "_law_item_by" s_item_by P_item_by) : Cal P w K mg base CX0 1 "_law_item_by" P_item_by sp_item_by := by
  refine cal_of D sc_item_by (fun vs H Q E h => ?_) (fun f cdv A outer s H vs Q E hr h => ?_)
  · obtain ⟨c, rfl, _⟩ := h
    rfl
  · obtain ⟨c, rfl, q⟩ := h
    refine ⟨_, (pss_cons (ps_set (i := 1) sc_item_by.nd rfl (Or.inr rfl) pe_str)
      (pss_one (ps_ret (pe_join pe_str (pe_lc (own := [("_law_k", 2)]) (g := gName 2) (tt := tYes) rfl sc_item_by.nd (pi_range1 (by rfl) T.m_range (pa_cons (pe_op op_add pe_int (pe_op op_mod (pv 0) pe_int)) pa_nil)) (blkOk_by (N := N_item_by) (sc := defScope s_item_by) (by decide +kernel)) (fun _ _ _ _ _ => pg_name (i := 2) sc_item_by.nd rfl (Or.inl rfl)) (fun _ _ _ _ _ => pts_nil) (fun _ _ _ _ _ => (pe_ix ix_str (pv 1) (pe_op op_mod (pe_op op_add (pe_op op_add (pe_op op_fdiv (pv 0) pe_int) (pe_op op_mul (pe_op op_fdiv (pe_op op_fdiv (pv 0) pe_int) pe_int) (pv 2))) (pe_op op_mul pe_int (pv 2))) pe_int) (fun _ _ => rfl)))))))), ?_⟩
    have m12 : 0 ≤ c % 12 ∧ c % 12 < 12 := ⟨Int.emod_nonneg _ (by decide), Int.emod_lt_of_pos _ (by decide)⟩
    walk_at "go"
    intro D hD
    generalize hG : (fun k : Nat => (c / 12 + c / 12 / 26 * (0 + (k : Int)) + 5 * (0 + (k : Int))) % 26) = G
    have g0 : ∀ k, 0 ≤ G k ∧ G k < 26 := fun k => by rw [← hG]; exact ⟨Int.emod_nonneg _ (by decide), Int.emod_lt_of_pos _ (by decide)⟩
    refine lcP_range (zs := ((List.range (1 + c % 12).toNat).map fun k : Nat => (⟨#[97 + (G k).toNat]⟩ : Str)).map V.str) (by simp) (by simp; omega) hD (fun i z H8 R hi hz s8 k => ?_) (fun H8 s8 hd8 => ?_)
    · rw [List.getElem?_map, List.getElem?_map, List.getElem?_range hi] at hz
      have hz := Option.some.inj hz
      subst hz
      walk_at "go"
      refine ⟨_, _, _, rfl, rfl, alpha_len, alpha_mod _, ?_⟩
      have e := congrFun hG i
      rw [e]
      exact k _ (Same.refl _)
    · rw [show ((List.range (1 + c % 12).toNat).map fun k : Nat => (⟨#[97 + (G k).toNat]⟩ : Str)) = (((List.range (1 + c % 12).toNat).map fun k : Nat => 97 + (G k).toNat).map fun c => (⟨#[c]⟩ : Str)) by rw [List.map_map]; rfl] at hd8
      have hl : ∀ cs : List Nat, cs = ((List.range (1 + c % 12).toNat).map fun k : Nat => 97 + (G k).toNat) → 1 ≤ cs.length ∧ cs.length ≤ 12 ∧ ∀ x ∈ cs, 97 ≤ x ∧ x ≤ 122 := by
        rintro _ rfl
        refine ⟨by simp; omega, by simp; omega, fun x hx => ?_⟩
        obtain ⟨k, _, rfl⟩ := List.mem_map.mp hx
        have := g0 k
        omega
      have hl := hl _ rfl
      generalize ((List.range (1 + c % 12).toNat).map fun k : Nat => 97 + (G k).toNat) = cs at *
      obtain ⟨l0, l1, la⟩ := hl
      walk_at "go"
      refine ⟨_, D, cs.map fun c => (⟨#[c]⟩ : Str), rfl, rfl, .inl (SqL.of hd8), ?_, ?_⟩
      · rw [sum_ones, List.length_map, len_cps, empty_cps]
        show cs.length + cs.length * 0 ≤ _
        omega
      · rw [join_signs empty_cps]
        exact q _ _ s8 (isItem_of l0 l1 la)
abbrev N_number_by : List Str := ["_law_cell", "_law_way"]
abbrev P_number_by : List Str := ["_law_cell", "_law_way"]
theorem sc_number_by : FnScope N_number_by P_number_by (defScope s_number_by) := ⟨rfl, rfl, rfl, by decide +kernel, rfl, by decide +kernel, by decide +kernel⟩
def sp_number_by : Sp := fun vs H Q _ => ∃ c y : Int, vs = [.int c, .int y] ∧ ∀ H' n, Same H H' → Fig n → Q (.int n) H'
theorem c_number_by (T : Blt mg) (D : DefAt K mg "_law_number_by" s_number_by P_number_by) : Cal P w K mg base CX0 1 "_law_number_by" P_number_by sp_number_by := by
  refine cal_of D sc_number_by (fun vs H Q E h => ?_) (fun f cdv A outer s H vs Q E hr h => ?_)
  · obtain ⟨c, y, rfl, _⟩ := h
    rfl
  · obtain ⟨c, y, rfl, q⟩ := h
    refine ⟨_, (pss_cons (ps_if (pt_cmpR op_eq (pe_op op_mod (pv 1) pe_int) pe_int (nomark _))
        (pss_one (ps_ret (pe_op op_mod (pv 0) (pe_op op_pow pe_int pe_int))))
        pss_nil)
      (pss_cons (ps_if (pt_cmpR op_eq (pe_op op_mod (pv 1) pe_int) pe_int (nomark _))
        (pss_one (ps_ret (pe_ix (kx_list K) (pe_lst (pa_cons pe_int (pa_cons (pe_op op_sub (pe_op op_pow pe_int pe_int) pe_int) (pa_cons pe_int (pa_cons pe_int (pa_cons (pe_op op_pow pe_int pe_int) pa_nil)))))) (pe_op op_mod (pv 0) pe_int) (fun _ _ => rfl))))
        pss_nil)
      (pss_one (ps_ret (pe_op op_mod (pv 0) pe_int))))), ?_⟩
    walk_at "goz"
    refine ite2 (fun h => ?_) (fun h => ?_)
    · walk_at "goz"
      exact q H _ (Same.refl _) (fig_mod (by decide +kernel) (by decide +kernel))
    walk_at "goz"
    refine ite2 (fun h => ?_) (fun h => ?_)
    · walk_at "goz"
      intro p hp
      have m5 : 0 ≤ c % 5 ∧ c % 5 < 5 := ⟨Int.emod_nonneg _ (by decide), Int.emod_lt_of_pos _ (by decide)⟩
      have s1 := same_new (o := .lst [V.int 0, .int (10 ^ (30 : Int).toNat - 1), .int 9, .int 10, .int (10 ^ (29 : Int).toNat)]) hp
      have e1 : upd H p (.lst [V.int 0, .int (10 ^ (30 : Int).toNat - 1), .int 9, .int 10, .int (10 ^ (29 : Int).toNat)]) p = some (.lst [V.int 0, .int (10 ^ (30 : Int).toNat - 1), .int 9, .int 10, .int (10 ^ (29 : Int).toNat)]) := upd_same
      obtain ⟨n, hn, fn⟩ : ∃ n, atI [V.int 0, .int (10 ^ (30 : Int).toNat - 1), .int 9, .int 10, .int (10 ^ (29 : Int).toNat)] (c % 5) = some (.int n) ∧ Fig n := by
        obtain ⟨m, hm, hm5⟩ : ∃ m : Nat, c % 5 = (m : Int) ∧ m < 5 := ⟨(c % 5).toNat, by omega, by omega⟩
        rw [hm]
        match m, hm5 with
        | 0, _ => exact ⟨_, atI_nat (j := 0) rfl, by decide +kernel, by decide +kernel⟩
        | 1, _ => exact ⟨_, atI_nat (j := 1) rfl, by decide +kernel, by decide +kernel⟩
        | 2, _ => exact ⟨_, atI_nat (j := 2) rfl, by decide +kernel, by decide +kernel⟩
        | 3, _ => exact ⟨_, atI_nat (j := 3) rfl, by decide +kernel, by decide +kernel⟩
        | 4, _ => exact ⟨_, atI_nat (j := 4) rfl, by decide +kernel, by decide +kernel⟩
      walk_at "goz"
      exact q _ n s1 fn
    walk_at "goz"
    exact q H _ (Same.refl _) (fig_mod (by decide) (by decide +kernel))
theorem sm_join {t : LineT} : t.item ++ " " ++ Txt.join " " ([t.pieces, t.cents, t.pack].map numT) = lineT t := by
  unfold lineT
  rw [List.map_cons, ← join_cons]
  rfl
theorem lineT_sm {t : LineT} (h : t.item.length ≤ 100 ∧ IntOk t.pieces ∧ IntOk t.cents ∧ IntOk t.pack) : (lineT t).length ≤ 404 := by
  have j := join_len " " [t.item, numT t.pieces, numT t.cents, numT t.pack]
  have := h.2.1.2
  have := h.2.2.1.2
  have := h.2.2.2.2
  rw [show ((" " : Str)).length = 1 from by decide +kernel] at j
  simp only [List.map_cons, List.map_nil, List.sum_cons, List.sum_nil, List.length_cons, List.length_nil] at j
  unfold lineT
  omega
abbrev N_text_of : List Str := ["_law_deed", "_law_parts", "_law_line", "_law_numbers", "_law_number"]
abbrev P_text_of : List Str := ["_law_deed"]
theorem sc_text_of : FnScope N_text_of P_text_of (defScope s_text_of) := ⟨rfl, rfl, rfl, by decide +kernel, rfl, by decide +kernel, by decide +kernel⟩
def sp_text_of (K : PySem.W.Frag) : Sp := fun vs H Q _ => ∃ (v : V) (d : TD), vs = [v] ∧ Dp K H v d.d ∧ d.Sm ∧ ∀ H', Same H H' → Q (.str (textOf d)) H'
theorem c_text_of (T : Blt mg) (D : DefAt K mg "_law_text_of" s_text_of P_text_of) : Cal P w K mg base CX0 1 "_law_text_of" P_text_of (sp_text_of K) := by
  refine cal_of D sc_text_of (fun vs H Q E h => ?_) (fun f cdv A outer s H vs Q E hr h => ?_)
  · obtain ⟨v, d, rfl, _⟩ := h
    rfl
  · obtain ⟨v, d, rfl, dd, W, q⟩ := h
    refine ⟨_, (pss_cons (ps_if (pt_cmpR op_eq (pe_ix (kx_tup K) (pv 0) pe_int (fun _ _ => rfl)) pe_str (nomark _))
        (pss_cons (ps_set (i := 1) sc_text_of.nd rfl (Or.inl rfl) (pe_lst pa_nil))
        (pss_cons (ps_for PassesOwn.never rfl (ki_list K (pe_ix (kx_tup K) (pv 0) pe_int (fun _ _ => rfl))) (pg_name (i := 2) sc_text_of.nd rfl (Or.inl rfl))
          (pss_cons (ps_setLc (i := 3) (own := [("_law_number", 4)]) (g := gName 4) (tt := tYes) rfl sc_text_of.nd rfl rfl (sw_true rfl rfl rfl (by decide +kernel)) (ki_tup K (pe_slice (ks_tup K) (pv 2) (po_some pe_int) po_none)) (blkOk_by (N := N_text_of) (sc := defScope s_text_of) (by decide +kernel)) (fun _ _ _ _ _ => pg_name (i := 4) sc_text_of.nd rfl (Or.inl rfl)) (fun _ _ _ _ _ => pts_nil) (fun _ _ _ _ _ => (pe_callTy call_str_int (by rfl) T.m_str PyProof.Rows.boot_str (pa_cons (pv 4) pa_nil))))
          (pss_one (ps_expr (pe_bm PySem.F.plainAttrs_list PySem.F.slot_list_append PySem.F.type_list_append mt_append (pv 1) (pa_cons (pe_op op_add_str (pe_op op_add_str (pe_ix (kx_tup K) (pv 2) pe_int (fun _ _ => rfl)) pe_str) (pe_join pe_str (pv 3))) pa_nil))))))
        (pss_one (ps_ret (pe_op op_add_str pe_str (pe_join pe_str (pv 1)))))))
        pss_nil)
      (pss_one (ps_ret (pe_op op_add_str (pe_op op_add_str (pe_ix (kx_tup K) (pv 0) pe_int (fun _ _ => rfl)) pe_str) (pe_join pe_str (pe_lc (own := [("_law_number", 4)]) (g := gName 4) (tt := tYes) rfl sc_text_of.nd (ki_tup K (pe_slice (ks_tup K) (pv 0) (po_some pe_int) po_none)) (blkOk_by (N := N_text_of) (sc := defScope s_text_of) (by decide +kernel)) (fun _ _ _ _ _ => pg_name (i := 4) sc_text_of.nd rfl (Or.inl rfl)) (fun _ _ _ _ _ => pts_nil) (fun _ _ _ _ _ => (pe_callTy call_str_int (by rfl) T.m_str PyProof.Rows.boot_str (pa_cons (pv 4) pa_nil))))))))), ?_⟩
    cases d with
    | num wd ns =>
      obtain ⟨p, rfl, hp⟩ := td_num dd
      obtain ⟨h0, h1, h2, h3, h4⟩ := W
      have i0 : atI (V.str wd :: ns.map V.int) 0 = some (V.str wd) := atI_nat (j := 0) rfl
      walk_at "goz"
      rw [decide_eq_false (show ¬ V.str wd = V.str "order" from fun e => h0 (V.str.inj e))]
      walk_at "goz"
      refine ⟨Evl.sz_of (by rw [show ((" " : Str)).length = 1 from by decide +kernel]; omega), ?_⟩
      walk_at "goz"
      refine ⟨p, _, rfl, hp, (fun h => absurd h cut1_not), fun _ t ht => ?_⟩
      rw [cut1]
      have s1 := same_new (o := .tup (ns.map V.int)) ht
      have e1 : upd H t (.tup (ns.map V.int)) t = _ := upd_same
      generalize upd H t (.tup (ns.map V.int)) = H1 at *
      walk_at "goz"
      refine ⟨⟨_, SqT.of e1⟩, fun D hD => ?_⟩
      refine lcP_tup (zs := (ns.map numT).map V.str) (by simp) (by simp; omega) (SqT.of e1) hD (fun i x z H8 R hxi hzi s8 k => ?_) (fun H8 s8 hd8 => ?_)
      · rw [List.getElem?_map] at hxi
        rw [List.getElem?_map, List.getElem?_map] at hzi
        cases e : ns[i]? with
        | none => rw [e] at hxi; cases hxi
        | some n =>
          rw [e] at hxi hzi
          have hxi := Option.some.inj hxi
          have hzi := Option.some.inj hzi
          subst hxi hzi
          walk_at "goz"
          exact ⟨(h4 n (List.mem_of_getElem? e)).1, k H8 (Same.refl _)⟩
      · have nl : ∀ p ∈ ns.map numT, p.length ≤ 1000 := fun p hp => by
          obtain ⟨x, hx', rfl⟩ := List.mem_map.mp hp
          have := (h4 x hx').2
          omega
        have jl := join_len " " (ns.map numT)
        have := sum_le (k := 100) (ns := (ns.map numT).map (·.length)) (fun n hn => by
          obtain ⟨p, hp, rfl⟩ := List.mem_map.mp hn
          obtain ⟨x, hx', rfl⟩ := List.mem_map.mp hp
          exact (h4 x hx').2)
        rw [List.length_map, List.length_map] at this
        rw [List.length_map, show ((" " : Str)).length = 1 by decide +kernel] at jl
        walk_at "goz"
        refine ⟨_, D, _, rfl, rfl, .inl (SqL.of hd8), join_sz blank_len nl (by rw [List.length_map]; omega), ?_⟩
        walk_at "goz"
        refine ⟨Evl.sz_of ?_, ?_⟩
        · rw [len_cps (wd ++ " "), cps_app, List.length_append, ← len_cps, ← len_cps, show ((" " : Str)).length = 1 by decide +kernel]
          omega
        · rw [textOf_num h1] at q
          exact q H8 (s1.trans s8)
    | ord ls =>
      obtain ⟨p, a, ys, rfl, hp, ha, dy⟩ := td_ord dd
      obtain ⟨l1, lw⟩ := W
      have hl := dy.length
      rw [List.length_map] at hl
      have i0 : atI [V.str "order", V.ref a] 0 = some (V.str "order") := atI_nat (j := 0) rfl
      have i1 : atI [V.str "order", V.ref a] 1 = some (V.ref a) := atI_nat (j := 1) rfl
      walk_at "goz"
      intro q0 hq0
      have s0 := same_new (o := .lst []) hq0
      have e0 : upd H q0 (.lst []) q0 = _ := upd_same
      generalize upd H q0 (.lst []) = H0 at *
      have hp0 := same_t s0 hp
      walk_at "goz"
      refine ⟨⟨_, same_l s0 ha⟩, ?_⟩
      refine for_list (K := K) (a := a) (xs := ys) (fun i σ H' => ∃ v2 v3 v4, σ = [some (.ref p), some (.ref q0), v2, v3, v4] ∧ Same H H' ∧ H' q0 = some (.lst (((ls.take i).map lineT).map V.str))) ⟨none, none, none, rfl, s0, e0⟩ (fun i σ H' _ ⟨_, _, _, _, s1, _⟩ => same_l s1 ha) ?_ ?_
      · rintro i x σ H1 hx ⟨v2, v3, v4, rfl, s1, e1⟩
        obtain ⟨d, hd, dd⟩ := (dy.same s1).got hx
        rw [List.getElem?_map] at hd
        cases e : ls[i]? with
        | none => rw [e] at hd; cases hd
        | some t =>
          rw [e] at hd
          have hd := Option.some.inj hd
          subst hd
          obtain ⟨b, rfl, hb⟩ := td_line dd
          have lt := lw t (List.mem_of_getElem? e)
          have ll := lineT_sm lt
          have i00 : atI [V.str t.item, .int t.pieces, .int t.cents, .int t.pack] 0 = some (V.str t.item) := atI_nat (j := 0) rfl
          walk_at "goz"
          refine ⟨b, _, rfl, hb, (fun h => absurd h cut1_not), fun _ r hr => ?_⟩
          rw [cut1]
          have s2 := s1.trans (same_new (o := .tup [V.int t.pieces, .int t.cents, .int t.pack]) hr)
          have e2 : upd H1 r (.tup [V.int t.pieces, .int t.cents, .int t.pack]) r = _ := upd_same
          have f2 := same_new (o := .tup [V.int t.pieces, .int t.cents, .int t.pack]) hr _ _ e1
          have g2 := same_t (same_new (o := .tup [V.int t.pieces, .int t.cents, .int t.pack]) hr) hb
          generalize upd H1 r (.tup [V.int t.pieces, .int t.cents, .int t.pack]) = H2 at *
          walk_at "goz"
          refine ⟨⟨_, SqT.of e2⟩, fun D hD => ?_⟩
          refine lcP_tup (zs := ([t.pieces, t.cents, t.pack].map numT).map V.str) (by simp) (by simp) (SqT.of e2) hD (fun i x z H8 R hxi hzi s8 k => ?_) (fun H8 s8 hd8 => ?_)
          · have go : ∃ n, x = .int n ∧ z = .str (numT n) ∧ IntOk n := by
              match i, hxi, hzi with
              | 0, h, h2 => cases h; cases h2; exact ⟨_, rfl, rfl, lt.2.1⟩
              | 1, h, h2 => cases h; cases h2; exact ⟨_, rfl, rfl, lt.2.2.1⟩
              | 2, h, h2 => cases h; cases h2; exact ⟨_, rfl, rfl, lt.2.2.2⟩
              | i + 3, h, _ => cases h
            obtain ⟨n, rfl, rfl, hn⟩ := go
            walk_at "goz"
            exact ⟨hn.1, k H8 (Same.refl _)⟩
          · have f8 := s8 _ _ f2
            have g8 := same_t s8 g2
            have nl : ∀ p ∈ [t.pieces, t.cents, t.pack].map numT, p.length ≤ 100 := fun p hp => by
              obtain ⟨n, hn, rfl⟩ := List.mem_map.mp hp
              simp only [List.mem_cons, List.not_mem_nil, or_false] at hn
              rcases hn with rfl | rfl | rfl
              · exact lt.2.1.2
              · exact lt.2.2.1.2
              · exact lt.2.2.2.2
            have e3 := sm_join (t := t)
            have eb : ((" " : Str)).length = 1 := by decide +kernel
            have e4 : (t.item ++ " ").length = t.item.length + 1 := by rw [len_cps, cps_app, List.length_append, ← len_cps, ← len_cps, eb]
            have e5 : (t.item ++ " ").length + (Txt.join " " ([t.pieces, t.cents, t.pack].map numT)).length ≤ 404 := by
              rw [← e3, len_cps, cps_app, List.length_append, ← len_cps, ← len_cps] at ll
              exact ll
            walk_at "goz"
            refine ⟨.inl ⟨rfl, _, SqL.of f8⟩, ?_⟩
            walk_at "goz"
            refine ⟨Evl.sz_of (by have := lt.1; omega), ?_⟩
            walk_at "goz"
            refine ⟨_, D, _, rfl, rfl, .inl (SqL.of hd8), join_sz blank_len (fun p hp => by have := nl p hp; omega) (by simp), ?_⟩
            walk_at "goz"
            refine ⟨Evl.sz_of (by omega), ?_⟩
            rw [e3]
            walk_at "goz"
            refine ⟨q0, _, _, rfl, rfl, f8, Evl.sz_lt (by rw [List.length_map, List.length_map, List.length_take]; omega), ?_⟩
            refine ⟨_, _, _, rfl, same_mut (s2.trans s8) hq0, ?_⟩
            rw [upd_same, take_succ' e, List.map_append, List.map_append]
            rfl
      · rintro σ H1 ⟨v2, v3, v4, rfl, s1, e1⟩
        rw [hl, List.take_length] at e1
        have jl := join_len ", " (ls.map lineT)
        have jm := sum_le (k := 404) (ns := (ls.map lineT).map (·.length)) (fun n hn => by
          obtain ⟨p, hp, rfl⟩ := List.mem_map.mp hn
          obtain ⟨x, hx', rfl⟩ := List.mem_map.mp hp
          exact lineT_sm (lw x hx'))
        rw [List.length_map, List.length_map] at jm
        rw [List.length_map, show ((", " : Str)).length = 2 by decide +kernel] at jl
        walk_at "goz"
        refine ⟨_, q0, _, rfl, rfl, .inl (SqL.of e1), join_sz comma_len (fun p hp => ?_) (by rw [List.length_map]; omega), ?_⟩
        · obtain ⟨x, hx', rfl⟩ := List.mem_map.mp hp
          have := lineT_sm (lw x hx')
          omega
        · walk_at "goz"
          refine ⟨Evl.sz_of ?_, q H1 s1⟩
          rw [show (("order " : Str)).length = 6 by decide +kernel]
          omega
abbrev N_parts_alike : List Str := ["_law_found", "_law_due", "_law_part"]
abbrev P_parts_alike : List Str := ["_law_found", "_law_due"]
theorem sc_parts_alike : FnScope N_parts_alike P_parts_alike (defScope s_parts_alike) := ⟨rfl, rfl, rfl, by decide +kernel, rfl, by decide +kernel, by decide +kernel⟩
def sp_parts_alike (K : PySem.W.Frag) : Sp := fun vs H Q _ => ∃ (v u : V) (d : PyData), vs = [v, u] ∧ Dp K H v d ∧ Dp K H u d ∧ FlatT d ∧ Q (.bl true) H
theorem c_parts_alike (T : Blt mg) (c_whole : Cal P w K mg base CX0 1 "_law_whole" P_whole sp_whole) (D : DefAt K mg "_law_parts_alike" s_parts_alike P_parts_alike) : Cal P w K mg base CX0 2 "_law_parts_alike" P_parts_alike (sp_parts_alike K) := by
  refine cal_of D sc_parts_alike (fun vs H Q E h => ?_) (fun f cdv A outer s H vs Q E hr h => ?_)
  · obtain ⟨v, u, d, rfl, _⟩ := h
    rfl
  · obtain ⟨v, u, d, rfl, dv, du, fd, q⟩ := h
    refine ⟨_, (pss_cons (ps_if (PW.pt (pw_or (pt_not (pt_val (pe_callB (kc_isi K) (by rfl) T.m_isinstance (by decide +kernel) (pa_cons (pv 0) (pa_cons (pe_bltn (v := .ty "tuple") (by rfl) T.m_tuple PyProof.Rows.boot_tuple rfl) pa_nil))))) (pw_or1 (pt_cmpR (ko_neD K hr.units) (pv 0) (pv 1) (nomark _)))))
        (pss_one (ps_ret pe_bl))
        pss_nil)
      (pss_cons (ps_for PassesOwn.never rfl (ki_tup K (pv 0)) (pg_name (i := 2) sc_parts_alike.nd rfl (Or.inl rfl))
        (pss_one (ps_if (PW.pt (pw_and (pt_not (pt_val (pe_callB (kc_isi K) (by rfl) T.m_isinstance (by decide +kernel) (pa_cons (pv 2) (pa_cons (pe_bltn (v := .ty "str") (by rfl) T.m_str PyProof.Rows.boot_str rfl) pa_nil))))) (pw_and1 (pt_not (pt_val (pe_cal c_whole (hr.mono (by decide)) pass0 (pa_cons (pv 2) pa_nil)))))))
          (pss_one (ps_ret pe_bl))
          pss_nil)))
      (pss_one (ps_ret pe_bl)))), ?_⟩
    have sh : SeqAt.shaped d = true := shaped_fl fd.ok
    have ev := eqv_self sh
    obtain ⟨ps, rfl, pl, pf⟩ := fd
    obtain ⟨t, us, rfl, ht, hu⟩ := dp_tuple dv
    walk_at "goz"
    refine ⟨_, _, _, _, _, rfl, .ty _, tyx_t ht, kit_ty (r := true) (by decide +kernel), ?_⟩
    walk_at "goz"
    refine ⟨_, _, dv, du, sh, sh, ?_⟩
    walk_at "goz"
    refine ⟨⟨_, ht⟩, ?_⟩
    refine for_tup (K := K) (a := t) (xs := us) (fun j σ H3 => ∃ v3, σ = [some (.ref t), some u, v3] ∧ H3 = H) ⟨none, rfl, rfl⟩ (fun j σ H3 _ ⟨v3, _, e⟩ => by rw [e]; exact ht) ?_ ?_
    · rintro j z σ H3 hj ⟨v3, rfl, rfl⟩
      obtain ⟨e, he, hz⟩ := hu.got hj
      rcases pf e (List.mem_of_getElem? he) with ⟨z', rfl, _⟩ | ⟨n, rfl⟩
      · rw [dp_str hz]
        walk_at "goz"
        refine ⟨_, _, _, _, _, rfl, .ty _, .base (.str z'), kit_ty (r := true) (by decide +kernel), ?_⟩
        walk_at "goz"
        rfl
      · rw [dp_int hz]
        walk_at "goz"
        refine ⟨_, _, _, _, _, rfl, .ty _, .base (.int n), kit_ty (r := false) (by decide +kernel), ?_⟩
        walk_at "goz"
        rfl
    · rintro σ H3 ⟨v3, rfl, rfl⟩
      walk_at "goz"
      exact q
abbrev N_deed_alike : List Str := ["_law_found", "_law_due", "_law_k"]
abbrev P_deed_alike : List Str := ["_law_found", "_law_due"]
theorem sc_deed_alike : FnScope N_deed_alike P_deed_alike (defScope s_deed_alike) := ⟨rfl, rfl, rfl, by decide +kernel, rfl, by decide +kernel, by decide +kernel⟩
def sp_deed_alike (K : PySem.W.Frag) : Sp := fun vs H Q _ => ∃ (v u : V) (d : PyData), vs = [v, u] ∧ Dp K H v d ∧ Dp K H u d ∧ AlikeD d ∧ Q (.bl true) H
theorem c_deed_alike (T : Blt mg) (c_parts_alike : Cal P w K mg base CX0 2 "_law_parts_alike" P_parts_alike (sp_parts_alike K)) (D : DefAt K mg "_law_deed_alike" s_deed_alike P_deed_alike) : Cal P w K mg base CX0 3 "_law_deed_alike" P_deed_alike (sp_deed_alike K) := by
  refine cal_of D sc_deed_alike (fun vs H Q E h => ?_) (fun f cdv A outer s H vs Q E hr h => ?_)
  · obtain ⟨v, u, d, rfl, _⟩ := h
    rfl
  · obtain ⟨v, u, d, rfl, dv, du, ad, q⟩ := h
    refine ⟨_, (pss_cons (ps_if (pt_cmpR op_ne (pe_ix (kx_tup K) (pv 1) pe_int (fun _ _ => rfl)) pe_str (nomark _))
        (pss_one (ps_ret (pe_cal c_parts_alike (hr.mono (by decide)) pass0 (pa_cons (pv 0) (pa_cons (pv 1) pa_nil)))))
        pss_nil)
      (pss_cons (ps_if (PW.pt (pw_or (pt_not (pt_val (pe_callB (kc_isi K) (by rfl) T.m_isinstance (by decide +kernel) (pa_cons (pv 0) (pa_cons (pe_bltn (v := .ty "tuple") (by rfl) T.m_tuple PyProof.Rows.boot_tuple rfl) pa_nil))))) (pw_or (pt_cmpR op_ne (pe_callB (kc_len K) (by rfl) T.m_len PySem.boot_len (pa_cons (pv 0) pa_nil)) pe_int (nomark _)) (pw_or1 (pt_cmpR op_ne (pe_ix (kx_tup K) (pv 0) pe_int (fun _ _ => rfl)) pe_str (nomark _))))))
        (pss_one (ps_ret pe_bl))
        pss_nil)
      (pss_cons (ps_if (PW.pt (pw_or (pt_not (pt_val (pe_callB (kc_isi K) (by rfl) T.m_isinstance (by decide +kernel) (pa_cons (pe_ix (kx_tup K) (pv 0) pe_int (fun _ _ => rfl)) (pa_cons (pe_bltn (v := .ty "list") (by rfl) T.m_list PyProof.Rows.boot_list rfl) pa_nil))))) (pw_or1 (pt_cmpR op_ne (pe_callB (kc_len K) (by rfl) T.m_len PySem.boot_len (pa_cons (pe_ix (kx_tup K) (pv 0) pe_int (fun _ _ => rfl)) pa_nil)) (pe_callB (kc_len K) (by rfl) T.m_len PySem.boot_len (pa_cons (pe_ix (kx_tup K) (pv 1) pe_int (fun _ _ => rfl)) pa_nil)) (nomark _)))))
        (pss_one (ps_ret pe_bl))
        pss_nil)
      (pss_cons (ps_for PassesOwn.never rfl (pi_range1 (by rfl) T.m_range (pa_cons (pe_callB (kc_len K) (by rfl) T.m_len PySem.boot_len (pa_cons (pe_ix (kx_tup K) (pv 1) pe_int (fun _ _ => rfl)) pa_nil)) pa_nil)) (pg_name (i := 2) sc_deed_alike.nd rfl (Or.inl rfl))
        (pss_one (ps_if (pt_not (pt_val (pe_cal c_parts_alike (hr.mono (by decide)) pass0 (pa_cons (pe_ix (kx_list K) (pe_ix (kx_tup K) (pv 0) pe_int (fun _ _ => rfl)) (pv 2) (fun _ _ => rfl)) (pa_cons (pe_ix (kx_list K) (pe_ix (kx_tup K) (pv 1) pe_int (fun _ _ => rfl)) (pv 2) (fun _ _ => rfl)) pa_nil)))))
          (pss_one (ps_ret pe_bl))
          pss_nil)))
      (pss_one (ps_ret pe_bl)))))), ?_⟩
    rcases ad with ⟨wd, r, rfl, hw, fd⟩ | ⟨ls, rfl, ll, li⟩
    · obtain ⟨t, us, rfl, ht, hu⟩ := dp_tuple du
      cases hu with
      | cons h1 h2 =>
        have h1 := dp_str h1
        subst h1
        rename_i xs
        have i0 : atI (V.str wd :: xs) 0 = some (V.str wd) := atI_nat (j := 0) rfl
        walk_at "goz"
        rw [decide_eq_false (show ¬ V.str wd = V.str "order" from fun e => hw (V.str.inj e))]
        walk_at "goz"
        exact ⟨_, _, _, rfl, dv, du, fd, q⟩
    · obtain ⟨p, a, xs, rfl, hp, ha, dx⟩ := td_ord dv
      obtain ⟨p2, b, ys, rfl, hp2, hb, dy⟩ := td_ord du
      have lx := dx.length
      have ly := dy.length
      have el : decide (V.int (xs.length : Int) = V.int (ys.length : Int)) = true := decide_eq_true (by rw [lx, ly])
      have i0 : ∀ a, atI [V.str "order", V.ref a] 0 = some (V.str "order") := fun _ => atI_nat (j := 0) rfl
      have i1 : ∀ a, atI [V.str "order", V.ref a] 1 = some (V.ref a) := fun _ => atI_nat (j := 1) rfl
      have ia0 := i0 a
      have ia1 := i1 a
      have ib0 := i0 b
      have ib1 := i1 b
      have eo : decide (V.str "order" = V.str "order") = true := decide_eq_true rfl
      have e2 : decide (V.int (([V.str "order", V.ref a].length : Nat) : Int) = V.int 2) = true := decide_eq_true rfl
      walk_at "goz"
      refine ⟨_, _, _, _, _, rfl, .ty _, tyx_t hp, kit_ty (r := true) (by decide +kernel), ?_⟩
      walk_at "goz"
      refine ⟨_, _, _, _, _, rfl, .ty _, tyx_l ha, kit_ty (r := true) (by decide +kernel), ?_⟩
      rw [List.length_map] at lx ly
      walk_at "goz"
      refine for_range (lo := 0) (n := ((ys.length : Nat) : Int).toNat) (fun i σ H' => ∃ v2, σ = [some (.ref p), some (.ref p2), v2] ∧ H' = H) ⟨none, rfl, rfl⟩ ?_ ?_
      · rintro i σ H' hi ⟨v2, rfl, rfl⟩
        have hi' : i < (ls.map lineD).length := by rw [List.length_map]; omega
        obtain ⟨x, hxi, dxi⟩ := dx.get (List.getElem?_eq_getElem hi')
        obtain ⟨y, hyi, dyi⟩ := dy.get (List.getElem?_eq_getElem hi')
        have fd : FlatT (ls.map lineD)[i] := by
          rw [List.getElem_map]
          exact flat_line (li _ (List.getElem_mem _))
        generalize (ls.map lineD)[i] = d at *
        have ax : atI xs (0 + (i : Int)) = some x := by rw [Int.zero_add]; exact atI_nat hxi
        have ay : atI ys (0 + (i : Int)) = some y := by rw [Int.zero_add]; exact atI_nat hyi
        walk_at "goz"
        refine ⟨_, _, _, rfl, dxi, dyi, fd, ?_⟩
        walk_at "goz"
        rfl
      · rintro σ H' ⟨v2, rfl, rfl⟩
        walk_at "goz"
        exact q
end
section
variable {P : Program} {w : World} {K : PySem.W.Frag} {mg : Str → Option Value} {base : Heap}
open NumText TL
/-! ### the law's own readers -/
abbrev N_number_in : List Str := ["_law_figures", "_law_sign"]
abbrev P_number_in : List Str := ["_law_figures"]
theorem sc_number_in : FnScope N_number_in P_number_in (defScope s_number_in) := ⟨rfl, rfl, rfl, by decide +kernel, rfl, by decide +kernel, by decide +kernel⟩
def sp_number_in : Sp := fun vs H Q _ => ∃ z : Str, vs = [.str z] ∧ Plain z ∧ Q (.int ((numOf z).getD (-1))) H
theorem c_number_in (T : Blt mg) (D : DefAt K mg "_law_number_in" s_number_in P_number_in) : Cal P w K mg base CX0 1 "_law_number_in" P_number_in sp_number_in := by
  refine cal_of D sc_number_in (fun vs H Q E h => ?_) (fun f cdv A outer s H vs Q E hr h => ?_)
  · obtain ⟨z, rfl, _⟩ := h
    rfl
  · obtain ⟨z, rfl, hz, q⟩ := h
    have zl := hz.l
    have hz2 : z.length ≤ sizeLine := Evl.sz_of (by omega)
    refine ⟨_, (pss_cons (ps_if (PW.pt (pw_or (pt_not (pt_chain op_lt op_lt pe_int (pe_callB call_len_str (by rfl) T.m_len PySem.boot_len (pa_cons (pv 0) pa_nil)) pe_int)) (pw_or1 (PW.pt (pw_and (pt_cmpR op_eq (pe_ix ix_str (pv 0) pe_int (fun _ _ => rfl)) pe_str (nomark _)) (pw_and1 (pt_cmpR op_gt (pe_callB call_len_str (by rfl) T.m_len PySem.boot_len (pa_cons (pv 0) pa_nil)) pe_int (nomark _))))))))
        (pss_one (ps_ret (pe_un un_neg pe_int)))
        pss_nil)
      (pss_cons (ps_for PassesOwn.never rfl (pi_str (pv 0)) (pg_name (i := 1) sc_number_in.nd rfl (Or.inl rfl))
        (pss_one (ps_if (pt_cmpR op_notIn_sign (pv 1) pe_str (by rfl))
          (pss_one (ps_ret (pe_un un_neg pe_int)))
          pss_nil)))
      (pss_one (ps_ret (pe_callTy call_int_str (by rfl) T.m_int PyProof.Rows.boot_int (pa_cons (pv 0) pa_nil)))))), ?_⟩
    have no : numB z = false → Q (.int (-1)) H := fun e => by
      unfold numOf at q
      rw [e, if_neg Bool.false_ne_true] at q
      exact q
    unfold numB at no
    walk_at "goz"
    refine ite2 (fun h1 => ?_) (fun h1 => ?_)
    rotate_left
    · have h1 := of_decide_eq_false (bfalse' h1)
      walk_at "goz"
      refine no ?_
      rw [decide_eq_false (show ¬ 1 ≤ z.length by omega), Bool.false_and, Bool.false_and, Bool.false_and, decide_eq_false (show ¬ z = "0" from fun e => h1 (by rw [e]; decide +kernel))]
      rfl
    have h1 := of_decide_eq_true h1
    obtain ⟨c, r, ec⟩ : ∃ c r, z.cps.toList = c :: r := by
      cases e : z.cps.toList with
      | nil => rw [len_cps, e] at h1; simp at h1
      | cons c r => exact ⟨c, r, rfl⟩
    have ix : atI z.cps.toList 0 = some c := by rw [ec]; exact atI_nat (j := 0) rfl
    walk_at "goz"
    refine ite2 (fun h2 => ?_) (fun h2 => ?_)
    rotate_left
    · have h2 := of_decide_eq_false (bfalse' h2)
      walk_at "goz"
      refine no ?_
      rw [decide_eq_false (show ¬ z.length ≤ 30 by omega), Bool.and_false, Bool.false_and, Bool.false_and, decide_eq_false (show ¬ z = "0" from fun e => h2 (by rw [e]; decide +kernel))]
      rfl
    have h2 := of_decide_eq_true h2
    have lz := len_cps z
    have h0 : (⟨#[c]⟩ : Str) = "0" ↔ c = 48 := ⟨fun e => by
      have := congrArg (fun z : Str => z.cps.toList) e
      exact List.head_eq_of_cons_eq this, fun e => by rw [e]; rfl⟩
    walk_at "goz"
    refine ⟨z, _, c, rfl, rfl, hz2, ix, ?_⟩
    walk_at "goz"
    refine ite2 (fun h3 => ?_) (fun h3 => ?_)
    · have h3 := h0.mp (str_yes h3)
      walk_at "goz"
      refine ite2 (fun h4 => ?_) (fun h4 => ?_)
      · have h4 := of_decide_eq_true h4
        walk_at "goz"
        refine no ?_
        rw [ec, h3, show decide ((48 :: r).head? = some 48) = true from rfl, Bool.not_true, Bool.and_false, Bool.false_and, decide_eq_false (show ¬ z = "0" from fun e => by rw [e] at h4; exact absurd h4 (by decide +kernel))]
        rfl
      have hc : c = 48 → z.length = 1 := fun _ => by
        have := of_decide_eq_false (bfalse' h4)
        omega
      walk_at "goz"
      refine for_str (x := z) (fun i σ H' => ∃ v, σ = [some (.str z), v] ∧ H' = H ∧ ∀ c ∈ z.cps.toList.take i, 48 ≤ c ∧ c ≤ 57) ⟨none, rfl, rfl, fun c h => by cases h⟩ ?_ ?_
      · rintro i d σ H' hd ⟨v, rfl, rfl, hall⟩
        have nf := figs_mem (c := d)
        by_cases hg : 48 ≤ d ∧ d ≤ 57
        · rw [decide_eq_true hg.1, decide_eq_true hg.2] at nf
          walk_at "goz"
          intro x hx
          rw [take_succ' hd] at hx
          rcases List.mem_append.mp hx with hx | hx
          · exact hall x hx
          · rw [List.mem_singleton.mp hx]; exact hg
        · have nf2 : decide (d ∈ (("0123456789" : Str)).cps.toList) = false := by
            rw [nf, ← Bool.decide_and]
            exact decide_eq_false hg
          walk_at "goz"
          refine no ?_
          have dm := List.mem_of_getElem? hd
          rw [show (z.cps.toList.all fun c => decide (48 ≤ c) && decide (c ≤ 57)) = false from Bool.eq_false_iff.mpr fun e => by
            have := List.all_eq_true.mp e d dm
            rw [Bool.and_eq_true, decide_eq_true_eq, decide_eq_true_eq] at this
            exact hg this, Bool.and_false, decide_eq_false (show ¬ z = "0" from fun e => by
            rw [e, show (("0" : Str)).cps.toList = [48] by decide +kernel] at dm
            have := List.mem_singleton.mp dm
            omega)]
          rfl
      · rintro σ H' ⟨v, rfl, rfl, hall⟩
        rw [List.take_length] at hall
        have nb : numB z = true := by
          unfold numB
          rw [Bool.or_eq_true]
          by_cases e : c = 48
          · refine .inl (decide_eq_true (str_ext ?_))
            have hl := hc e
            rw [lz, ec] at hl
            rw [ec, e, List.length_eq_zero_iff.mp (show r.length = 0 by simpa using hl)]
            decide +kernel
          · refine .inr ?_
            rw [decide_eq_true (show 1 ≤ z.length by omega), decide_eq_true (show z.length ≤ 30 by omega), ec, decide_eq_false (show ¬ (c :: r).head? = some 48 from fun h => e (Option.some.inj h)), ← ec, show (z.cps.toList.all fun c => decide (48 ≤ c) && decide (c ≤ 57)) = true from List.all_eq_true.mpr fun x hx => by
              rw [Bool.and_eq_true, decide_eq_true_eq, decide_eq_true_eq]; exact hall x hx]
            rfl
        obtain ⟨i1, i2⟩ := numB_int nb
        unfold numOf at q
        rw [if_pos nb] at q
        walk_at "goz"
        exact ⟨z, _, rfl, i1, by omega, q⟩
    · have h3 : ¬ c = 48 := fun e => str_not h3 (h0.mpr e)
      have hc : c = 48 → z.length = 1 := fun e => absurd e h3
      walk_at "goz"
      refine for_str (x := z) (fun i σ H' => ∃ v, σ = [some (.str z), v] ∧ H' = H ∧ ∀ c ∈ z.cps.toList.take i, 48 ≤ c ∧ c ≤ 57) ⟨none, rfl, rfl, fun c h => by cases h⟩ ?_ ?_
      · rintro i d σ H' hd ⟨v, rfl, rfl, hall⟩
        have nf := figs_mem (c := d)
        by_cases hg : 48 ≤ d ∧ d ≤ 57
        · rw [decide_eq_true hg.1, decide_eq_true hg.2] at nf
          walk_at "goz"
          intro x hx
          rw [take_succ' hd] at hx
          rcases List.mem_append.mp hx with hx | hx
          · exact hall x hx
          · rw [List.mem_singleton.mp hx]; exact hg
        · have nf2 : decide (d ∈ (("0123456789" : Str)).cps.toList) = false := by
            rw [nf, ← Bool.decide_and]
            exact decide_eq_false hg
          walk_at "goz"
          refine no ?_
          have dm := List.mem_of_getElem? hd
          rw [show (z.cps.toList.all fun c => decide (48 ≤ c) && decide (c ≤ 57)) = false from Bool.eq_false_iff.mpr fun e => by
            have := List.all_eq_true.mp e d dm
            rw [Bool.and_eq_true, decide_eq_true_eq, decide_eq_true_eq] at this
            exact hg this, Bool.and_false, decide_eq_false (show ¬ z = "0" from fun e => by
            rw [e, show (("0" : Str)).cps.toList = [48] by decide +kernel] at dm
            have := List.mem_singleton.mp dm
            omega)]
          rfl
      · rintro σ H' ⟨v, rfl, rfl, hall⟩
        rw [List.take_length] at hall
        have nb : numB z = true := by
          unfold numB
          rw [Bool.or_eq_true]
          by_cases e : c = 48
          · refine .inl (decide_eq_true (str_ext ?_))
            have hl := hc e
            rw [lz, ec] at hl
            rw [ec, e, List.length_eq_zero_iff.mp (show r.length = 0 by simpa using hl)]
            decide +kernel
          · refine .inr ?_
            rw [decide_eq_true (show 1 ≤ z.length by omega), decide_eq_true (show z.length ≤ 30 by omega), ec, decide_eq_false (show ¬ (c :: r).head? = some 48 from fun h => e (Option.some.inj h)), ← ec, show (z.cps.toList.all fun c => decide (48 ≤ c) && decide (c ≤ 57)) = true from List.all_eq_true.mpr fun x hx => by
              rw [Bool.and_eq_true, decide_eq_true_eq, decide_eq_true_eq]; exact hall x hx]
            rfl
        obtain ⟨i1, i2⟩ := numB_int nb
        unfold numOf at q
        rw [if_pos nb] at q
        walk_at "goz"
        exact ⟨z, _, rfl, i1, by omega, q⟩
theorem numOf_nn {z : Str} {n : Int} (h : numOf z = some n) : 0 ≤ n := by
  unfold numOf at h
  split at h
  · have := Option.some.inj h; omega
  · cases h
theorem getD_some {z : Str} (h : 0 ≤ (numOf z).getD (-1)) : numOf z = some ((numOf z).getD (-1)) := by
  cases e : numOf z with
  | none => rw [e] at h; exact absurd h (by decide)
  | some n => rfl
theorem getD_none {z : Str} (h : numOf z = none) : (numOf z).getD (-1) = -1 := by rw [h]; rfl
theorem line4_len {L : List Str} (h : ¬ L.length = 4) : line4 L = none := by
  match L, h with
  | [], _ => rfl
  | [_], _ => rfl
  | [_, _], _ => rfl
  | [_, _, _], _ => rfl
  | [_, _, _, _], h => exact absurd rfl h
  | _ :: _ :: _ :: _ :: _ :: _, _ => rfl
theorem line4_eq {a b c d : Str} : line4 [a, b, c, d] = if itemOk a = true then (match numOf b, numOf c, numOf d with | some p, some q, some r => some ⟨a, p, q, r⟩ | _, _, _ => none) else none := rfl
abbrev N_line_in : List Str := ["_law_part", "_law_words", "_law_sign", "_law_numbers", "_law_word"]
abbrev P_line_in : List Str := ["_law_part"]
theorem sc_line_in : FnScope N_line_in P_line_in (defScope s_line_in) := ⟨rfl, rfl, rfl, by decide +kernel, rfl, by decide +kernel, by decide +kernel⟩
def sp_line_in (K : PySem.W.Frag) : Sp := fun vs H Q _ => ∃ (fp : Addr → Prop) (z : Str), vs = [.str z] ∧ Plain z ∧ Has fp H ∧ (∀ t, lineOf z = some t → ∀ y H', Same H H' → Dp K (off fp H') y (lineD t) → Q y H') ∧ (lineOf z = none → ∀ H', Same H H' → Q .non H')
theorem c_line_in (T : Blt mg) (c_number_in : Cal P w K mg base CX0 1 "_law_number_in" P_number_in sp_number_in) (D : DefAt K mg "_law_line_in" s_line_in P_line_in) : Cal P w K mg base CX0 2 "_law_line_in" P_line_in (sp_line_in K) := by
  refine cal_of D sc_line_in (fun vs H Q E h => ?_) (fun f cdv A outer s H vs Q E hr h => ?_)
  · obtain ⟨fp, z, rfl, _⟩ := h
    rfl
  · obtain ⟨fp, z, rfl, hz, hf, q, qn⟩ := h
    have hp4 := split_plain blank_ne (by decide +kernel) hz
    have sl := split_sz hz " "
    have zl := hz.l
    unfold lineOf at q qn
    refine ⟨_, (pss_cons (ps_set (i := 1) sc_line_in.nd rfl (Or.inl rfl) (pe_split (pv 0) pe_str))
      (pss_cons (ps_if (PW.pt (pw_or (pt_cmpR op_ne (pe_callB (kc_len K) (by rfl) T.m_len PySem.boot_len (pa_cons (pv 1) pa_nil)) pe_int (nomark _)) (pw_or1 (pt_not (pt_chain op_lt op_lt pe_int (pe_callB call_len_str (by rfl) T.m_len PySem.boot_len (pa_cons (pe_ix (kx_list K) (pv 1) pe_int (fun _ _ => rfl)) pa_nil)) pe_int)))))
        (pss_one (ps_ret pe_non))
        pss_nil)
      (pss_cons (ps_for PassesOwn.never rfl (pi_str (pe_ix (kx_list K) (pv 1) pe_int (fun _ _ => rfl))) (pg_name (i := 2) sc_line_in.nd rfl (Or.inl rfl))
        (pss_one (ps_if (pt_cmpR op_notIn_sign (pv 2) pe_str (by rfl))
          (pss_one (ps_ret pe_non))
          pss_nil)))
      (pss_cons (ps_setLc (i := 3) (own := [("_law_word", 4)]) (g := gName 4) (tt := tYes) rfl sc_line_in.nd rfl rfl (sw_true rfl rfl rfl (by decide +kernel)) (ki_list K (pe_slice (ks_list K) (pv 1) (po_some pe_int) po_none)) (blkOk_by (N := N_line_in) (sc := defScope s_line_in) (by decide +kernel)) (fun _ _ _ _ _ => pg_name (i := 4) sc_line_in.nd rfl (Or.inl rfl)) (fun _ _ _ _ _ => pts_nil) (fun _ _ _ _ _ => (pe_cal c_number_in (hr.mono (by decide)) pass0 (pa_cons (pv 4) pa_nil))))
      (pss_cons (ps_if (pt_cmpR op_lt (pe_callB (kc_min K rfl) (by rfl) T.m_min (by decide +kernel) (pa_cons (pv 3) pa_nil)) pe_int (nomark _))
        (pss_one (ps_ret pe_non))
        pss_nil)
      (pss_one (ps_ret (pe_tup (pa_cons (pe_ix (kx_list K) (pv 1) pe_int (fun _ _ => rfl)) (pa_cons (pe_ix (kx_list K) (pv 3) pe_int (fun _ _ => rfl)) (pa_cons (pe_ix (kx_list K) (pv 3) pe_int (fun _ _ => rfl)) (pa_cons (pe_ix (kx_list K) (pv 3) pe_int (fun _ _ => rfl)) pa_nil)))))))))))), ?_⟩
    walk_at "goz"
    refine ⟨Evl.sz_of (by omega), fun p hp => ?_⟩
    generalize Txt.split z " " = L at *
    have s1 : Same H (upd H p (.lst (L.map V.str))) := same_new hp
    have e1 : upd H p (.lst (L.map V.str)) p = some (.lst (L.map V.str)) := upd_same
    generalize upd H p (.lst (L.map V.str)) = H1 at *
    have no : line4 L = none → ∀ H', Same H1 H' → Q .non H' := fun e H' s => qn e H' (s1.trans s)
    walk_at "goz"
    rw [List.length_map]
    refine ite2 (fun h => ?_) (fun h => ?_)
    rotate_left
    · walk_at "goz"
      exact no (line4_len fun e => h (decide_eq_true (by rw [e]; rfl))) H1 (Same.refl _)
    have h : L.length = 4 := by
      have := V.int.inj (of_decide_eq_true h)
      omega
    obtain ⟨a, b, c, d, rfl⟩ : ∃ a b c d, L = [a, b, c, d] := by
      match L, h with
      | [a, b, c, d], _ => exact ⟨a, b, c, d, rfl⟩
    rw [line4_eq] at q no
    have pa := hp4 a (by simp)
    have pb := hp4 b (by simp)
    have pc := hp4 c (by simp)
    have pd := hp4 d (by simp)
    have al := pa.l
    have a2 : a.length ≤ sizeLine := Evl.sz_of (by omega)
    have i0 : atI ([a, b, c, d].map V.str) 0 = some (V.str a) := atI_nat (j := 0) rfl
    have bad : itemOk a = false → Q .non H1 := fun e => no (by rw [e]; rfl) H1 (Same.refl _)
    have ia : itemOk a = (decide (1 ≤ a.length) && decide (a.length ≤ 12) && a.cps.toList.all fun c => decide (97 ≤ c) && decide (c ≤ 122)) := rfl
    walk_at "goz"
    refine ite2 (fun h1 => ?_) (fun h1 => ?_)
    rotate_left
    · have h1 := of_decide_eq_false (bfalse' h1)
      walk_at "goz"
      exact bad (by rw [ia, decide_eq_false (show ¬ 1 ≤ a.length by omega)]; rfl)
    have h1 := of_decide_eq_true h1
    walk_at "goz"
    refine ite2 (fun h2 => ?_) (fun h2 => ?_)
    rotate_left
    · have h2 := of_decide_eq_false (bfalse' h2)
      walk_at "goz"
      exact bad (by rw [ia, decide_eq_false (show ¬ a.length ≤ 12 by omega), Bool.and_false]; rfl)
    have h2 := of_decide_eq_true h2
    walk_at "goz"
    refine for_str (x := a) (fun i σ H' => ∃ v, σ = [some (.str z), some (.ref p), v, none, none] ∧ H' = H1 ∧ ∀ c ∈ a.cps.toList.take i, 97 ≤ c ∧ c ≤ 122) ⟨none, rfl, rfl, fun c h => by cases h⟩ ?_ ?_
    · rintro i x σ H' hx ⟨v, rfl, rfl, hall⟩
      have nf := alpha_mem (c := x)
      by_cases hg : 97 ≤ x ∧ x ≤ 122
      · rw [decide_eq_true hg.1, decide_eq_true hg.2] at nf
        walk_at "goz"
        intro y hy
        rw [take_succ' hx] at hy
        rcases List.mem_append.mp hy with hy | hy
        · exact hall y hy
        · rw [List.mem_singleton.mp hy]; exact hg
      · have nf2 : decide (x ∈ (("abcdefghijklmnopqrstuvwxyz" : Str)).cps.toList) = false := by
          rw [nf, ← Bool.decide_and]
          exact decide_eq_false hg
        walk_at "goz"
        refine bad ?_
        have dm := List.mem_of_getElem? hx
        rw [ia, show (a.cps.toList.all fun c => decide (97 ≤ c) && decide (c ≤ 122)) = false from Bool.eq_false_iff.mpr fun e => by
          have := List.all_eq_true.mp e x dm
          rw [Bool.and_eq_true, decide_eq_true_eq, decide_eq_true_eq] at this
          exact hg this, Bool.and_false]
    · rintro σ H' ⟨v, rfl, rfl, hall⟩
      rw [List.take_length] at hall
      have io : itemOk a = true := by
        rw [ia, decide_eq_true (show 1 ≤ a.length by omega), decide_eq_true (show a.length ≤ 12 by omega), show (a.cps.toList.all fun c => decide (97 ≤ c) && decide (c ≤ 122)) = true from List.all_eq_true.mpr fun x hx => by
          rw [Bool.and_eq_true, decide_eq_true_eq, decide_eq_true_eq]; exact hall x hx]
        rfl
      rw [if_pos io] at q no
      walk_at "goz"
      refine ⟨p, _, rfl, SqL.of e1, fun p2 hp2 => ?_⟩
      rw [show cutV ([a, b, c, d].map V.str) (some 1) none = [b, c, d].map V.str from cut1]
      have s2 := same_new (o := .lst ([b, c, d].map V.str)) hp2
      have e2 : upd H' p2 (.lst ([b, c, d].map V.str)) p2 = _ := upd_same
      generalize upd H' p2 (.lst ([b, c, d].map V.str)) = H2 at *
      have f1 := s2 _ _ e1
      walk_at "goz"
      refine ⟨⟨_, SqL.of e2⟩, fun D hD => ?_⟩
      refine lcP_list (zs := ([b, c, d].map fun z => (numOf z).getD (-1)).map V.int) (by simp) (by simp) (SqL.of e2) hD (fun i x z H8 R hxi hzi s8 k => ?_) (fun H8 s8 hd8 => ?_)
      · have go : ∃ y, x = .str y ∧ z = .int ((numOf y).getD (-1)) ∧ Plain y := by
          match i, hxi, hzi with
          | 0, h, h2 => cases h; cases h2; exact ⟨_, rfl, rfl, pb⟩
          | 1, h, h2 => cases h; cases h2; exact ⟨_, rfl, rfl, pc⟩
          | 2, h, h2 => cases h; cases h2; exact ⟨_, rfl, rfl, pd⟩
          | i + 3, h, _ => cases h
        obtain ⟨y, rfl, rfl, py⟩ := go
        walk_at "goz"
        exact k H8 (Same.refl _)
      · have f8 := s8 _ _ f1
        have s3 := s2.trans s8
        have i1 : atI (([b, c, d].map fun z => (numOf z).getD (-1)).map V.int) 0 = some (V.int ((numOf b).getD (-1))) := atI_nat (j := 0) rfl
        have i2 : atI (([b, c, d].map fun z => (numOf z).getD (-1)).map V.int) 1 = some (V.int ((numOf c).getD (-1))) := atI_nat (j := 1) rfl
        have i3 : atI (([b, c, d].map fun z => (numOf z).getD (-1)).map V.int) 2 = some (V.int ((numOf d).getD (-1))) := atI_nat (j := 2) rfl
        walk_at "goz"
        refine ⟨D, _, rfl, SqL.of hd8, by simp, fun m hm hle => ?_⟩
        walk_at "goz"
        refine ite2 (fun hm0 => ?_) (fun hm0 => ?_)
        · have hm0 := of_decide_eq_true hm0
          walk_at "goz"
          refine no ?_ H8 s3
          cases eb : numOf b with
          | none => rfl
          | some nb =>
            cases ec : numOf c with
            | none => rfl
            | some nc =>
              cases ed : numOf d with
              | none => rfl
              | some nd =>
                have := numOf_nn eb
                have := numOf_nn ec
                have := numOf_nn ed
                rw [List.map_cons, List.map_cons, List.map_cons, eb, ec, ed] at hm
                simp only [List.map_nil, Option.getD_some, List.mem_cons, List.not_mem_nil, or_false] at hm
                omega
        · have hm0 := of_decide_eq_false (bfalse' hm0)
          have gb := getD_some (z := b) (by have := hle _ (List.mem_map.mpr ⟨b, by simp, rfl⟩); omega)
          have gc := getD_some (z := c) (by have := hle _ (List.mem_map.mpr ⟨c, by simp, rfl⟩); omega)
          have gd := getD_some (z := d) (by have := hle _ (List.mem_map.mpr ⟨d, by simp, rfl⟩); omega)
          walk_at "goz"
          intro t ht
          have s6 := s1.trans s3
          exact q ⟨a, (numOf b).getD (-1), (numOf c).getD (-1), (numOf d).getD (-1)⟩ (by rw [gb, gc, gd]; rfl) _ _ (s6.trans (same_new ht)) (dp_tup_new (hf.same s6) ht (.cons (.str _) (.cons (.int _) (.cons (.int _) (.cons (.int _) .nil)))))
theorem inV_strs {x : Str} : ∀ {ys : List Str}, inV (V.str x) (ys.map V.str) = decide (x ∈ ys)
  | [] => rfl
  | y :: ys => by
    show (eqV (V.str y) (V.str x) || inV (V.str x) (ys.map V.str)) = _
    rw [inV_strs]
    show (decide (y = x) || decide (x ∈ ys)) = _
    rw [← Bool.decide_or]
    refine decide_eq_decide.mpr ?_
    rw [List.mem_cons]
    exact ⟨fun h => h.imp Eq.symm id, fun h => h.imp Eq.symm id⟩
def optD : Option LineT → PyData
  | some t => lineD t
  | none => .none
theorem seqO_total {α β : Type} {f : α → β} : ∀ {l : List α}, seqO (fun x => some (f x)) l = some (l.map f)
  | [] => rfl
  | x :: r => by
    show (match some (f x), seqO (fun x => some (f x)) r with | some y, some ys => some (y :: ys) | _, _ => none) = _
    rw [seqO_total]
    rfl
theorem seqO_optD : ∀ {l : List Str} {ls : List LineT}, seqO lineOf l = some ls → (l.map lineOf).map optD = ls.map lineD
  | [], ls, h => by cases h; rfl
  | x :: r, ls, h => by
    unfold seqO at h
    cases e : lineOf x with
    | none => rw [e] at h; cases h
    | some t =>
      cases e2 : seqO lineOf r with
      | none => rw [e, e2] at h; cases h
      | some ts =>
        rw [e, e2] at h
        cases h
        rw [List.map_cons, List.map_cons, e, seqO_optD e2]
        rfl
theorem seqO_find : ∀ {l : List Str}, (∀ x ∈ l, ∃ t, lineOf x = some t) → ∃ ls, seqO lineOf l = some ls
  | [], _ => ⟨[], rfl⟩
  | x :: r, h => by
    obtain ⟨t, ht⟩ := h x (.head _)
    obtain ⟨ts, hts⟩ := seqO_find fun y hy => h y (.tail _ hy)
    refine ⟨t :: ts, ?_⟩
    unfold seqO
    rw [ht, hts]
theorem seqO_nums : ∀ {l : List Str}, (∀ x ∈ l, ∃ t, numOf x = some t) → seqO numOf l = some (l.map fun z => (numOf z).getD (-1))
  | [], _ => rfl
  | x :: r, h => by
    obtain ⟨t, ht⟩ := h x (.head _)
    unfold seqO
    rw [ht, seqO_nums fun y hy => h y (.tail _ hy), List.map_cons, ht]
    rfl
theorem cut6 {z : Str} : cutS z (some 6) none = (⟨((TL.tl z).drop 6).toArray⟩ : Str) := by
  unfold cutS
  rw [HT.sIx_none, show (6 : Int) = ((6 : Nat) : Int) from rfl, HT.sIx_nat]
  have hl := len_tl z
  refine ext_tl ?_
  rw [tl_mk, tl_mk]
  rcases Nat.lt_or_ge z.length 6 with h | h
  · rw [Nat.min_eq_right (by omega), List.drop_eq_nil_of_le (show (TL.tl z).length ≤ 6 by omega)]
    simp
  · rw [Nat.min_eq_left h, List.take_of_length_le (by rw [List.length_drop]; show (TL.tl z).length - 6 ≤ z.length - 6; omega)]
abbrev two : List Str := ["pay", "refund"]
abbrev svn : List Str := ["deliver", "back", "swap", "credit", "move", "pay", "refund"]
theorem parts_size {w : Str} (h : w ∈ (["deliver", "back", "swap", "credit", "move", "pay", "refund"] : List Str)) : partsOf w = some (4 - (if w ∈ (["pay", "refund"] : List Str) then 1 else 0)) := by
  simp only [List.mem_cons, List.not_mem_nil, or_false] at h
  rcases h with rfl | rfl | rfl | rfl | rfl | rfl | rfl <;> decide +kernel
theorem seven {w : Str} : (w ∈ (["deliver", "back", "swap", "credit", "move", "pay", "refund"] : List Str)) ↔ (w ≠ "order" ∧ ∃ k, partsOf w = some k) := by
  constructor
  · intro h
    refine ⟨?_, _, parts_size h⟩
    simp only [List.mem_cons, List.not_mem_nil, or_false] at h
    rcases h with rfl | rfl | rfl | rfl | rfl | rfl | rfl <;> decide +kernel
  · rintro ⟨h0, k, h⟩
    have := (parts_word h).resolve_left h0
    simp only [List.mem_cons, List.not_mem_nil, or_false]
    rcases this with h | h | h | h | h | h | h <;> simp [h]
abbrev N_deed_in : List Str := ["_law_line", "_law_lines", "_law_one", "_law_words", "_law_size", "_law_numbers", "_law_part", "_law_word"]
abbrev P_deed_in : List Str := ["_law_line"]
theorem sc_deed_in : FnScope N_deed_in P_deed_in (defScope s_deed_in) := ⟨rfl, rfl, rfl, by decide +kernel, rfl, by decide +kernel, by decide +kernel⟩
def sp_deed_in (K : PySem.W.Frag) : Sp := fun vs H Q _ => ∃ (fp : Addr → Prop) (z : Str), vs = [.str z] ∧ Plain z ∧ Has fp H ∧ (∀ d, deedOf z = some d → ∀ y H', Same H H' → Dp K (off fp H') y d.d → Q y H') ∧ (deedOf z = none → ∀ H', Same H H' → Q .non H')
theorem c_deed_in (T : Blt mg) (c_number_in : Cal P w K mg base CX0 1 "_law_number_in" P_number_in sp_number_in) (c_line_in : Cal P w K mg base CX0 2 "_law_line_in" P_line_in (sp_line_in K)) (D : DefAt K mg "_law_deed_in" s_deed_in P_deed_in) :
    Cal P w K mg base CX0 3 "_law_deed_in" P_deed_in (sp_deed_in K) := by
  refine cal_of D sc_deed_in (fun vs H Q E h => ?_) (fun f cdv A outer s H vs Q E hr h => ?_)
  · obtain ⟨fp, z, rfl, _⟩ := h
    rfl
  · obtain ⟨fp, z, rfl, hz, hf, q, qn⟩ := h
    have zl := hz.l
    refine ⟨_, (pss_cons (ps_if (pt_val (pe_m1 PySem.F.slot_str_startswith PySem.F.type_str_startswith mt_startswith (pv 0) pe_str))
        (pss_cons (ps_setLc (i := 1) (own := [("_law_part", 6)]) (g := gName 6) (tt := tYes) rfl sc_deed_in.nd rfl rfl (sw_true rfl rfl rfl (by decide +kernel)) (ki_list K (pe_split (pe_slice sl_str (pv 0) (po_some pe_int) po_none) pe_str)) (blkOk_by (N := N_deed_in) (sc := defScope s_deed_in) (by decide +kernel)) (fun _ _ _ _ _ => pg_name (i := 6) sc_deed_in.nd rfl (Or.inl rfl)) (fun _ _ _ _ _ => pts_nil) (fun _ _ _ _ _ => (pe_cal c_line_in (hr.mono (by decide)) pass0 (pa_cons (pv 6) pa_nil))))
        (pss_cons (ps_for PassesOwn.never rfl (ki_list K (pv 1)) (pg_name (i := 2) sc_deed_in.nd rfl (Or.inl rfl))
          (pss_one (ps_if (pt_cmpR op_isN (pv 2) pe_non (nomark _))
            (pss_one (ps_ret pe_non))
            pss_nil)))
        (pss_one (ps_ret (pe_tup (pa_cons pe_str (pa_cons (pv 1) pa_nil)))))))
        pss_nil)
      (pss_cons (ps_set (i := 3) sc_deed_in.nd rfl (Or.inl rfl) (pe_split (pv 0) pe_str))
      (pss_cons (ps_set (i := 4) sc_deed_in.nd rfl (Or.inl rfl) (pe_op op_sub pe_int (pe_callTy call_int1 (by rfl) T.m_int PyProof.Rows.boot_int (pa_cons (pe_cmpR (ko_in K) (pe_ix (kx_list K) (pv 3) pe_int (fun _ _ => rfl)) (pe_lst (pa_cons pe_str (pa_cons pe_str pa_nil))) (by rfl)) pa_nil))))
      (pss_cons (ps_if (PW.pt (pw_or (pt_cmpR (ko_notIn K) (pe_ix (kx_list K) (pv 3) pe_int (fun _ _ => rfl)) (pe_lst (pa_cons pe_str (pa_cons pe_str (pa_cons pe_str (pa_cons pe_str (pa_cons pe_str (pa_cons pe_str (pa_cons pe_str pa_nil)))))))) (by rfl)) (pw_or1 (pt_cmpR op_ne (pe_callB (kc_len K) (by rfl) T.m_len PySem.boot_len (pa_cons (pv 3) pa_nil)) (pv 4) (nomark _)))))
        (pss_one (ps_ret pe_non))
        pss_nil)
      (pss_cons (ps_setLc (i := 5) (own := [("_law_word", 7)]) (g := gName 7) (tt := tYes) rfl sc_deed_in.nd rfl rfl (sw_true rfl rfl rfl (by decide +kernel)) (ki_list K (pe_slice (ks_list K) (pv 3) (po_some pe_int) po_none)) (blkOk_by (N := N_deed_in) (sc := defScope s_deed_in) (by decide +kernel)) (fun _ _ _ _ _ => pg_name (i := 7) sc_deed_in.nd rfl (Or.inl rfl)) (fun _ _ _ _ _ => pts_nil) (fun _ _ _ _ _ => (pe_cal c_number_in (hr.mono (by decide)) pass0 (pa_cons (pv 7) pa_nil))))
      (pss_cons (ps_if (pt_cmpR op_lt (pe_callB (kc_min K rfl) (by rfl) T.m_min (by decide +kernel) (pa_cons (pv 5) pa_nil)) pe_int (nomark _))
        (pss_one (ps_ret pe_non))
        pss_nil)
      (pss_one (ps_ret (pe_callTy (kc_tuple K) (by rfl) T.m_tuple PyProof.Rows.boot_tuple (pa_cons (pe_op op_cat (pe_lst (pa_cons (pe_ix (kx_list K) (pv 3) pe_int (fun _ _ => rfl)) pa_nil)) (pv 5)) pa_nil)))))))))), ?_⟩
    walk_at "goz"
    rw [starts_order]
    refine ite2 (fun h => ?_) (fun h => ?_)
    · have h := of_decide_eq_true h
      have po := deedOf_order h
      have pr : Plain (⟨((TL.tl z).drop 6).toArray⟩ : Str) := by
        have := (partition_plain blank_ne hz).2
        rw [order_part h] at this
        exact this
      rw [po] at q qn
      walk_at "goz"
      refine ⟨Evl.sz_of (by omega), ?_⟩
      rw [cut6]
      generalize (⟨((TL.tl z).drop 6).toArray⟩ : Str) = rs at *
      have hrp := split_plain (y := ", ") (by rw [comma_cps]; simp) (by decide +kernel) pr
      have sl := split_sz pr ", "
      have rl := pr.l
      walk_at "goz"
      refine ⟨Evl.sz_of (by omega), fun p2 hp2 => ?_⟩
      have s2 := same_new (o := .lst ((Txt.split rs ", ").map V.str)) hp2
      have e2 : upd H p2 (.lst ((Txt.split rs ", ").map V.str)) p2 = _ := upd_same
      generalize upd H p2 (.lst ((Txt.split rs ", ").map V.str)) = H2 at *
      generalize Txt.split rs ", " = L at *
      walk_at "goz"
      refine ⟨⟨_, SqL.of e2⟩, fun D hD => ?_⟩
      refine lcR_list (fp := fp) (fun x => some (lineOf x)) optD L (by omega) (SqL.of e2) hD (hf.same s2) (fun x H8 R hx s8 f8 k => ?_) (fun bs H8 ys hb s8 hd8 r8 d8 => ?_)
      · walk_at "goz"
        exact ⟨And1 fp D, x, rfl, hrp x hx, f8, fun t et y H9 s9 dy => k (some t) y H9 (by rw [et]) s9 dy, fun e H9 s9 => k none _ H9 (by rw [e]) s9 .non⟩
      · rw [seqO_total] at hb
        have hb := Option.some.inj hb
        subst hb
        have s3 := s2.trans s8
        have yl := r8.length
        rw [List.length_map, List.length_map] at yl
        walk_at "goz"
        refine ⟨⟨_, SqL.of hd8⟩, ?_⟩
        refine for_list (K := K) (a := D) (xs := ys) (fun i σ H' => ∃ v, σ = [some (.str z), some (.ref D), v, none, none, none, none, none] ∧ H' = H8 ∧ ∀ x ∈ L.take i, ∃ t, lineOf x = some t) ⟨none, rfl, rfl, fun x h => by cases h⟩ (fun i σ H' _ ⟨_, _, e, _⟩ => by rw [e]; exact SqL.of hd8) ?_ ?_
        · rintro i x σ H' hx ⟨v, rfl, rfl, hall⟩
          obtain ⟨d, hd, dd⟩ := r8.got hx
          have hi : i < L.length := by rw [← yl]; exact (List.getElem?_eq_some_iff.mp hx).1
          rw [List.getElem?_map, List.getElem?_map, List.getElem?_eq_getElem hi] at hd
          have hd := Option.some.inj hd
          cases et : lineOf L[i] with
          | none =>
            rw [et] at hd
            subst hd
            have ev : x = V.non := by cases dd; rfl
            subst ev
            walk_at "goz"
            exact qn (by rw [seqO_bad (List.getElem_mem hi) et]; rfl) H' s3
          | some t =>
            rw [et] at hd
            subst hd
            obtain ⟨b, rfl, _⟩ := td_line dd
            walk_at "goz"
            intro y hy
            rw [take_succ' (List.getElem?_eq_getElem hi)] at hy
            rcases List.mem_append.mp hy with hy | hy
            · exact hall y hy
            · rw [List.mem_singleton.mp hy]; exact ⟨t, et⟩
        · rintro σ H' ⟨v, rfl, rfl, hall⟩
          rw [yl, List.take_length] at hall
          obtain ⟨ls, hls⟩ := seqO_find hall
          rw [seqO_optD hls] at d8
          walk_at "goz"
          intro t ht
          exact q (.ord ls) (by rw [hls]; rfl) _ _ (s3.trans (same_new ht)) (dp_tup_new (hf.same s3) ht (.cons (.str _) (.cons d8 .nil)))
    · have h := of_decide_eq_false (bfalse' h)
      have hrp := split_plain blank_ne (by decide +kernel) hz
      have sl := split_sz hz " "
      obtain ⟨r, hr'⟩ := split_head (z := z) blank_ne (by decide +kernel)
      have dn : deedOf z = if (Txt.partition z " ").1 = "order" then none else if partsOf (Txt.partition z " ").1 = some (Txt.split z " ").length then (seqO numOf (Txt.split z " ").tail).map (.num (Txt.partition z " ").1) else none := by
        by_cases ho : (Txt.partition z " ").1 = "order"
        · rw [if_pos ho, deedOf_no h ho]
        · rw [if_neg ho]
          unfold deedOf
          rw [if_neg ho]
      rw [dn] at q qn
      walk_at "goz"
      refine ⟨Evl.sz_of (by omega), fun p hp => ?_⟩
      generalize (Txt.partition z " ").1 = wd at *
      rw [hr'] at q qn hrp sl
      rw [hr']
      have s1 := same_new (o := .lst ((wd :: r).map V.str)) hp
      have e1 : upd H p (.lst ((wd :: r).map V.str)) p = _ := upd_same
      generalize upd H p (.lst ((wd :: r).map V.str)) = H1 at *
      have i0 : atI ((wd :: r).map V.str) 0 = some (V.str wd) := atI_nat (j := 0) rfl
      walk_at "goz"
      intro t1 g1
      have s2 := same_new (o := .lst (two.map V.str)) g1
      have e2 : upd H1 t1 (.lst (two.map V.str)) t1 = some (.lst (two.map V.str)) := upd_same
      have f1 := s2 _ _ e1
      have iv := inV_strs (x := wd) (ys := two)
      refine ⟨t1, two.map V.str, rfl, .inl (SqL.of e2), rfl, rfl, ?_⟩
      rw [iv]
      change Same H1 (upd H1 t1 (.lst [V.str "pay", V.str "refund"])) at s2
      change upd H1 t1 (.lst [V.str "pay", V.str "refund"]) t1 = _ at e2
      change upd H1 t1 (.lst [V.str "pay", V.str "refund"]) p = _ at f1
      generalize upd H1 t1 (.lst [V.str "pay", V.str "refund"]) = H2 at *
      walk_at "goz"
      intro t2 g2
      have s3 := same_new (o := .lst (svn.map V.str)) g2
      have e3 : upd H2 t2 (.lst (svn.map V.str)) t2 = some (.lst (svn.map V.str)) := upd_same
      have f2 := s3 _ _ f1
      have iv2 := inV_strs (x := wd) (ys := svn)
      refine ⟨t2, svn.map V.str, rfl, .inl (SqL.of e3), rfl, rfl, ?_⟩
      rw [iv2]
      change Same H2 (upd H2 t2 (.lst [V.str "deliver", V.str "back", V.str "swap", V.str "credit", V.str "move", V.str "pay", V.str "refund"])) at s3
      change upd H2 t2 (.lst [V.str "deliver", V.str "back", V.str "swap", V.str "credit", V.str "move", V.str "pay", V.str "refund"]) p = _ at f2
      clear e3
      generalize upd H2 t2 (.lst [V.str "deliver", V.str "back", V.str "swap", V.str "credit", V.str "move", V.str "pay", V.str "refund"]) = H3 at *
      have s13 := (s1.trans s2).trans s3
      by_cases hs : wd ∈ svn
      rotate_left
      · rw [decide_eq_false hs]
        walk_at "goz"
        refine qn ?_ H3 s13
        by_cases ho : wd = "order"
        · rw [if_pos ho]
        · rw [if_neg ho, if_neg (fun e => hs (seven.mpr ⟨ho, _, e⟩))]
      rw [decide_eq_true hs]
      have ho := (seven.mp hs).1
      rw [if_neg ho] at q qn
      have pz := parts_size hs
      rw [pz] at q qn
      walk_at "goz"
      have esz : ∀ n : Nat, (V.int (n : Int) = V.int (4 - (if (if false = true then !decide (wd ∈ two) else decide (wd ∈ two)) = true then 1 else 0))) ↔ some (4 - if wd ∈ two then 1 else 0) = some n := fun n => by
        by_cases hw2 : wd ∈ two
        · rw [if_pos hw2, decide_eq_true hw2]
          constructor
          · intro e
            have e : (n : Int) = 4 - 1 := V.int.inj e
            have : n = 3 := by omega
            rw [this]
          · intro e
            have e := Option.some.inj e
            rw [← e]
            rfl
        · rw [if_neg hw2, decide_eq_false hw2]
          constructor
          · intro e
            have e : (n : Int) = 4 - 0 := V.int.inj e
            have : n = 4 := by omega
            rw [this]
          · intro e
            have e := Option.some.inj e
            rw [← e]
            rfl
      have rl2 : some (4 - if wd ∈ two then 1 else 0) = some (wd :: r).length → r ≠ [] := fun e h => by
        have e := Option.some.inj e
        rw [h] at e
        simp only [List.length_cons, List.length_nil] at e
        split at e <;> omega
      refine ite2 (fun h5 => ?_) (fun h5 => ?_)
      rotate_left
      · walk_at "goz"
        refine qn ?_ H3 s13
        rw [if_neg fun e => h5 (decide_eq_true ((esz (((wd :: r).map V.str).length)).mpr (by rw [List.length_map]; exact e)))]
      have e5 := (esz _).mp (of_decide_eq_true h5)
      rw [List.length_map] at e5
      rw [if_pos e5] at q qn
      have rne := rl2 e5
      rw [List.tail_cons] at q qn
      walk_at "goz"
      refine ⟨p, _, rfl, SqL.of f2, fun p4 hp4 => ?_⟩
      rw [show cutV ((wd :: r).map V.str) (some 1) none = r.map V.str from cut1]
      have s4 := same_new (o := .lst (r.map V.str)) hp4
      have e4 : upd H3 p4 (.lst (r.map V.str)) p4 = _ := upd_same
      generalize upd H3 p4 (.lst (r.map V.str)) = H4 at *
      have f4 := s4 _ _ f2
      have rlen : r.length ≤ 90002 := by rw [List.length_cons] at sl; omega
      walk_at "goz"
      refine ⟨⟨_, SqL.of e4⟩, fun D hD => ?_⟩
      refine lcP_list (zs := (r.map fun z => (numOf z).getD (-1)).map V.int) (by simp) (by simp; omega) (SqL.of e4) hD (fun i x z H8 R hxi hzi s8 k => ?_) (fun H8 s8 hd8 => ?_)
      · rw [List.getElem?_map] at hxi
        rw [List.getElem?_map, List.getElem?_map] at hzi
        cases e : r[i]? with
        | none => rw [e] at hxi; cases hxi
        | some y =>
          rw [e] at hxi hzi
          have hxi := Option.some.inj hxi
          have hzi := Option.some.inj hzi
          subst hxi hzi
          have py := hrp y (.tail _ (List.mem_of_getElem? e))
          walk_at "goz"
          exact k H8 (Same.refl _)
      · have f8 := s8 _ _ f4
        have s9 := (s13.trans s4).trans s8
        walk_at "goz"
        refine ⟨D, _, rfl, SqL.of hd8, by rw [List.length_map]; exact List.length_pos_iff.mpr rne, fun m hm hle => ?_⟩
        walk_at "goz"
        refine ite2 (fun hm0 => ?_) (fun hm0 => ?_)
        · have hm0 := of_decide_eq_true hm0
          walk_at "goz"
          refine qn ?_ H8 s9
          obtain ⟨y, hy, ey⟩ := List.mem_map.mp hm
          rw [seqO_bad hy (by
            cases e : numOf y with
            | none => rfl
            | some n =>
              rw [e] at ey
              have := numOf_nn e
              have ey : n = m := ey
              omega)]
          rfl
        · have hm0 := of_decide_eq_false (bfalse' hm0)
          have gs := seqO_nums (l := r) fun y hy => ⟨_, getD_some (z := y) (by have := hle _ (List.mem_map.mpr ⟨y, hy, rfl⟩); omega)⟩
          walk_at "goz"
          intro t5 g5
          have s10 := same_new (o := .lst [V.str wd]) g5
          have e10 : upd H8 t5 (.lst [V.str wd]) t5 = _ := upd_same
          have d10 := s10 _ _ hd8
          generalize upd H8 t5 (.lst [V.str wd]) = H10 at *
          walk_at "goz"
          refine ⟨_, _, _, _, rfl, rfl, e10, d10, Evl.sz_of (by simp; omega), fun t6 g6 => ?_⟩
          have s11 := same_new (o := .lst ([V.str wd] ++ (r.map fun z => (numOf z).getD (-1)).map V.int)) g6
          have e11 : upd H10 t6 (.lst ([V.str wd] ++ (r.map fun z => (numOf z).getD (-1)).map V.int)) t6 = _ := upd_same
          generalize upd H10 t6 (.lst ([V.str wd] ++ (r.map fun z => (numOf z).getD (-1)).map V.int)) = H11 at *
          walk_at "goz"
          refine ⟨t6, _, rfl, .inl ⟨SqL.of e11, fun t7 g7 => ?_⟩⟩
          have s12 := (s9.trans s10).trans s11
          exact q (.num wd (r.map fun z => (numOf z).getD (-1))) (by rw [gs]; rfl) _ _ (s12.trans (same_new g7)) (dp_tup_new (hf.same s12) g7 (.cons (.str _) (dpAll_ints _)))
end
section
variable {P : Program} {w : World} {K : PySem.W.Frag} {mg : Str → Option Value} {base : Heap}
open NumText TL
abbrev N_any_deed : List Str := ["_law_script", "_law_words", "_law_word", "_law_way", "_law_lines", "_law_k", "_law_cell", "_law_numbers", "_law_n"]
abbrev P_any_deed : List Str := ["_law_script"]
theorem sc_any_deed : FnScope N_any_deed P_any_deed (defScope s_any_deed) := ⟨rfl, rfl, rfl, by decide +kernel, rfl, by decide +kernel, by decide +kernel⟩
def sp_any_deed (K : PySem.W.Frag) : Sp := fun vs H Q _ => ∃ (a : Addr) (ns : List Int), vs = [.ref a] ∧ SqL K H a (ns.map V.int) ∧ ∀ H' v (d : TD), Same H H' → d.Wr → Dp K H' v d.d → Q v H'
theorem num3 {ns : List Int} (h : ns.length = 3) : ∃ a b c, ns = [a, b, c] := by
  match ns, h with
  | [a, b, c], _ => exact ⟨a, b, c, rfl⟩
/-- the words but the order's, with their parts -/
def W3 (w : Str) : Prop := w ≠ "order" ∧ ((w = "pay" ∨ w = "refund") ∧ partsOf w = some 3 ∨ w ≠ "pay" ∧ w ≠ "refund" ∧ partsOf w = some 4)
theorem c_any_deed (T : Blt mg) (c_cell_at : Cal P w K mg base CX0 1 "_law_cell_at" P_cell_at (sp_cell_at K)) (c_number_by : Cal P w K mg base CX0 1 "_law_number_by" P_number_by sp_number_by) (c_item_by : Cal P w K mg base CX0 1 "_law_item_by" P_item_by sp_item_by)
    (D : DefAt K mg "_law_any_deed" s_any_deed P_any_deed) : Cal P w K mg base CX0 2 "_law_any_deed" P_any_deed (sp_any_deed K) := by
  refine cal_of D sc_any_deed (fun vs H Q E h => ?_) (fun f cdv A outer s H vs Q E hr h => ?_)
  · obtain ⟨a, ns, rfl, _⟩ := h
    rfl
  · obtain ⟨a, ns, rfl, hS, q⟩ := h
    refine ⟨_, (pss_cons (ps_set (i := 1) sc_any_deed.nd rfl (Or.inl rfl) (pe_lst (pa_cons pe_str (pa_cons pe_str (pa_cons pe_str (pa_cons pe_str (pa_cons pe_str (pa_cons pe_str (pa_cons pe_str (pa_cons pe_str (pa_cons pe_str (pa_cons pe_str pa_nil))))))))))))
      (pss_cons (ps_set (i := 2) sc_any_deed.nd rfl (Or.inl rfl) (pe_ix (kx_list K) (pv 1) (pe_op op_mod (pe_cal c_cell_at (hr.mono (by decide)) pass0 (pa_cons (pv 0) (pa_cons pe_int pa_nil))) pe_int) (fun _ _ => rfl)))
      (pss_cons (ps_set (i := 3) sc_any_deed.nd rfl (Or.inr rfl) (pe_cal c_cell_at (hr.mono (by decide)) pass0 (pa_cons (pv 0) (pa_cons pe_int pa_nil))))
      (pss_cons (ps_if (pt_cmpR op_eq (pv 2) pe_str (nomark _))
        (pss_cons (ps_set (i := 4) sc_any_deed.nd rfl (Or.inl rfl) (pe_lst pa_nil))
        (pss_cons (ps_for PassesOwn.never rfl (pi_range1 (by rfl) T.m_range (pa_cons (pe_op op_add pe_int (pe_op op_mod (pe_cal c_cell_at (hr.mono (by decide)) pass0 (pa_cons (pv 0) (pa_cons pe_int pa_nil))) pe_int)) pa_nil)) (pg_name (i := 5) sc_any_deed.nd rfl (Or.inl rfl))
          (pss_cons (ps_set (i := 6) sc_any_deed.nd rfl (Or.inr rfl) (pe_op op_add (pe_op op_mul (pe_cal c_cell_at (hr.mono (by decide)) pass0 (pa_cons (pv 0) (pa_cons (pe_op op_add pe_int (pe_op op_mod (pv 5) pe_int)) pa_nil))) (pe_op op_add (pv 5) pe_int)) (pv 5)))
          (pss_cons (ps_setLc (i := 7) (own := [("_law_n", 8)]) (g := gName 8) (tt := tYes) rfl sc_any_deed.nd rfl rfl (sw_true rfl rfl rfl (by decide +kernel)) (pi_range1 (by rfl) T.m_range (pa_cons pe_int pa_nil)) (blkOk_by (N := N_any_deed) (sc := defScope s_any_deed) (by decide +kernel)) (fun _ _ _ _ _ => pg_name (i := 8) sc_any_deed.nd rfl (Or.inl rfl)) (fun _ _ _ _ _ => pts_nil) (fun _ _ _ _ _ => (pe_cal c_number_by (hr.mono (by decide)) pass0 (pa_cons (pe_op op_fdiv (pv 6) (pe_op op_add (pv 8) pe_int)) (pa_cons (pe_op op_fdiv (pv 3) (pe_op op_add (pv 8) pe_int)) pa_nil)))))
          (pss_one (ps_expr (pe_bm PySem.F.plainAttrs_list PySem.F.slot_list_append PySem.F.type_list_append mt_append (pv 4) (pa_cons (pe_tup (pa_cons (pe_cal c_item_by (hr.mono (by decide)) pass0 (pa_cons (pv 6) pa_nil)) (pa_cons (pe_ix (kx_list K) (pv 7) pe_int (fun _ _ => rfl)) (pa_cons (pe_ix (kx_list K) (pv 7) pe_int (fun _ _ => rfl)) (pa_cons (pe_ix (kx_list K) (pv 7) pe_int (fun _ _ => rfl)) pa_nil))))) pa_nil)))))))
        (pss_one (ps_ret (pe_tup (pa_cons pe_str (pa_cons (pv 4) pa_nil)))))))
        pss_nil)
      (pss_cons (ps_setLc (i := 7) (own := [("_law_n", 8)]) (g := gName 8) (tt := tYes) rfl sc_any_deed.nd rfl rfl (sw_true rfl rfl rfl (by decide +kernel)) (pi_range1 (by rfl) T.m_range (pa_cons pe_int pa_nil)) (blkOk_by (N := N_any_deed) (sc := defScope s_any_deed) (by decide +kernel)) (fun _ _ _ _ _ => pg_name (i := 8) sc_any_deed.nd rfl (Or.inl rfl)) (fun _ _ _ _ _ => pts_nil) (fun _ _ _ _ _ => (pe_cal c_number_by (hr.mono (by decide)) pass0 (pa_cons (pe_cal c_cell_at (hr.mono (by decide)) pass0 (pa_cons (pv 0) (pa_cons (pe_op op_add pe_int (pv 8)) pa_nil))) (pa_cons (pe_op op_fdiv (pv 3) (pe_op op_add (pv 8) pe_int)) pa_nil)))))
      (pss_cons (ps_if (PW.pt (pw_or (pt_cmpR op_eq (pv 2) pe_str (nomark _)) (pw_or1 (pt_cmpR op_eq (pv 2) pe_str (nomark _)))))
        (pss_one (ps_ret (pe_tup (pa_cons (pv 2) (pa_cons (pe_ix (kx_list K) (pv 7) pe_int (fun _ _ => rfl)) (pa_cons (pe_ix (kx_list K) (pv 7) pe_int (fun _ _ => rfl)) pa_nil))))))
        pss_nil)
      (pss_one (ps_ret (pe_tup (pa_cons (pv 2) (pa_cons (pe_ix (kx_list K) (pv 7) pe_int (fun _ _ => rfl)) (pa_cons (pe_ix (kx_list K) (pv 7) pe_int (fun _ _ => rfl)) (pa_cons (pe_ix (kx_list K) (pv 7) pe_int (fun _ _ => rfl)) pa_nil))))))))))))), ?_⟩
    walk_at "goz"
    intro p hp
    have s0 := same_new (o := .lst [V.str "deliver", V.str "back", V.str "swap", V.str "credit", V.str "move", V.str "pay", V.str "refund", V.str "order", V.str "order", V.str "order"]) hp
    have e0 : upd H p (.lst [V.str "deliver", V.str "back", V.str "swap", V.str "credit", V.str "move", V.str "pay", V.str "refund", V.str "order", V.str "order", V.str "order"]) p = _ := upd_same
    generalize upd H p (.lst [V.str "deliver", V.str "back", V.str "swap", V.str "credit", V.str "move", V.str "pay", V.str "refund", V.str "order", V.str "order", V.str "order"]) = H0 at *
    have hS0 := same_l s0 hS
    walk_at "goz"
    refine ⟨a, ns, 0, rfl, hS0, ?_⟩
    generalize cellAt ns 0 = c0
    obtain ⟨wd, hw, ww⟩ : ∃ wd, atI [V.str "deliver", V.str "back", V.str "swap", V.str "credit", V.str "move", V.str "pay", V.str "refund", V.str "order", V.str "order", V.str "order"] (c0 % 10) = some (.str wd) ∧ (wd = "order" ∨ W3 wd) := by
      have m8 : 0 ≤ c0 % 10 ∧ c0 % 10 < 10 := ⟨Int.emod_nonneg _ (by decide), Int.emod_lt_of_pos _ (by decide)⟩
      obtain ⟨m, hm, hm5⟩ : ∃ m : Nat, c0 % 10 = (m : Int) ∧ m < 10 := ⟨(c0 % 10).toNat, by omega, by omega⟩
      rw [hm]
      have go : ∀ w : Str, (w = "deliver" ∨ w = "back" ∨ w = "swap" ∨ w = "credit" ∨ w = "move" ∨ w = "pay" ∨ w = "refund") → W3 w := by
        unfold W3
        rintro w (rfl | rfl | rfl | rfl | rfl | rfl | rfl) <;> decide +kernel
      match m, hm5 with
      | 0, _ => exact ⟨_, atI_nat (j := 0) rfl, .inr (go _ (by simp))⟩
      | 1, _ => exact ⟨_, atI_nat (j := 1) rfl, .inr (go _ (by simp))⟩
      | 2, _ => exact ⟨_, atI_nat (j := 2) rfl, .inr (go _ (by simp))⟩
      | 3, _ => exact ⟨_, atI_nat (j := 3) rfl, .inr (go _ (by simp))⟩
      | 4, _ => exact ⟨_, atI_nat (j := 4) rfl, .inr (go _ (by simp))⟩
      | 5, _ => exact ⟨_, atI_nat (j := 5) rfl, .inr (go _ (by simp))⟩
      | 6, _ => exact ⟨_, atI_nat (j := 6) rfl, .inr (go _ (by simp))⟩
      | 7, _ => exact ⟨_, atI_nat (j := 7) rfl, .inl rfl⟩
      | 8, _ => exact ⟨_, atI_nat (j := 8) rfl, .inl rfl⟩
      | 9, _ => exact ⟨_, atI_nat (j := 9) rfl, .inl rfl⟩
    walk_at "goz"
    refine ⟨a, ns, 1, rfl, hS0, ?_⟩
    generalize cellAt ns 1 = wy
    walk_at "goz"
    refine ite2 (fun h => ?_) (fun h => ?_)
    · walk_at "goz"
      intro q0 hq0
      have s1 := s0.trans (same_new (o := .lst []) hq0)
      have e1 : upd H0 q0 (.lst []) q0 = _ := upd_same
      have nq : H q0 = none := none_back s0 hq0
      generalize upd H0 q0 (.lst []) = H1 at *
      walk_at "goz"
      refine ⟨a, ns, 2, rfl, same_l s1 hS, ?_⟩
      generalize cellAt ns 2 = c2
      have m25 : 0 ≤ c2 % 4 ∧ c2 % 4 < 4 := ⟨Int.emod_nonneg _ (by decide), Int.emod_lt_of_pos _ (by decide)⟩
      walk_at "goz"
      refine for_range (lo := 0) (n := (1 + c2 % 4).toNat) (fun i σ H' => ∃ (ls : List LineT) (ys : List V) (v4 v5 v6 v7 : Option V), σ = [some (.ref a), some (.ref p), some (.str wd), some (.int wy), some (.ref q0), v4, v5, v6, v7] ∧ Same H H' ∧ H' q0 = some (.lst ys) ∧ DpAll K (off (And1 (fun _ => False) q0) H') ys (ls.map lineD) ∧ ls.length = i ∧ ∀ t ∈ ls, t.Wr)
        ⟨[], [], none, none, none, none, rfl, s1, e1, .nil, rfl, fun t h => by cases h⟩ ?_ ?_
      · rintro i σ H2 hi ⟨ls, ys, v4, v5, v6, v7, rfl, s2, e2, dy, hl, ok⟩
        have hyl := dy.length
        rw [List.length_map] at hyl
        walk_at "goz"
        refine ⟨a, ns, 3 + i % 6, by show ([V.ref a, V.int (3 + (0 + (i : Int)) % 6)] : List V) = _; rw [show (3 + (0 + (i : Int)) % 6) = ((3 + i % 6 : Nat) : Int) by omega], same_l s2 hS, ?_⟩
        generalize cellAt ns (3 + i % 6) = c3
        walk_at "goz"
        intro D hD
        refine lcE_range Fig (by decide) hD (fun j H8 R hj s8 k => ?_) (fun H8 nn nl nf s8 hd8 => ?_)
        · walk_at "goz"
          exact fun H9 m s9 fm => k m H9 s9 fm
        · obtain ⟨n0, n1, n2, rfl⟩ := num3 nl
          have e8 := s8 _ _ e2
          walk_at "goz"
          refine ⟨.inl ⟨rfl, _, SqL.of e8⟩, ?_⟩
          walk_at "goz"
          intro H9 z s9 iz
          have e9 := s9 _ _ e8
          have d9 := s9 _ _ hd8
          have i0 : atI ([n0, n1, n2].map V.int) 0 = some (V.int n0) := atI_nat (j := 0) rfl
          have i1 : atI ([n0, n1, n2].map V.int) 1 = some (V.int n1) := atI_nat (j := 1) rfl
          have i2 : atI ([n0, n1, n2].map V.int) 2 = some (V.int n2) := atI_nat (j := 2) rfl
          walk_at "goz"
          intro t ht
          have nt : q0 ≠ t := ne_of_none e9 ht
          walk_at "goz"
          refine ⟨q0, ys, _, rfl, rfl, by rw [upd_ne nt]; exact e9, Evl.sz_lt (by omega), ?_⟩
          have s3 := (s2.trans s8).trans s9
          have hfa : Has (And1 (fun _ => False) q0) H9 := has_none.and1 (by rw [e9]; exact fun z => nomatch z)
          refine ⟨ls ++ [⟨z, n0, n1, n2⟩], ys ++ [.ref t], _, _, _, _, rfl, same_mut (s3.trans (same_new ht)) nq, upd_same, ?_, by rw [List.length_append, hl]; rfl, fun t' ht' => ?_⟩
          · rw [off_upd (Or.inr rfl), List.map_append]
            refine ((dy.same (off_mono (s8.trans s9))).same (off_mono (same_new ht))).append (.cons ?_ .nil)
            exact dp_tup_new hfa ht (.cons (.str _) (.cons (.int _) (.cons (.int _) (.cons (.int _) .nil))))
          · rcases List.mem_append.mp ht' with h | h
            · exact ok t' h
            · rw [List.mem_singleton] at h
              subst h
              exact ⟨iz.ok, nf _ (by simp), nf _ (by simp), nf _ (by simp)⟩
      · rintro σ H2 ⟨ls, ys, v4, v5, v6, v7, rfl, s2, e2, dy, hl, ok⟩
        walk_at "goz"
        intro t ht
        have d2 : Dp K H2 (.ref q0) (.list (ls.map lineD)) := .lst (SqL.of e2) (dy.same off_same)
        have nl : ls ≠ [] := fun e => by rw [e] at hl; simp at hl; omega
        have hh := str_yes h
        subst hh
        have dn := dp_tup_new has_none ht (.cons (.str "order") (.cons (d2.same (by rw [off_none]; exact .refl _)) .nil))
        rw [off_none] at dn
        exact q _ _ (.ord ls) (s2.trans (same_new ht)) ⟨nl, by omega, ok⟩ dn
    · have hw := str_not h
      replace ww := ww.resolve_left hw
      walk_at "goz"
      intro D hD
      refine lcE_range Fig (by decide) hD (fun j H8 R hj s8 k => ?_) (fun H8 nn nl nf s8 hd8 => ?_)
      · walk_at "goz"
        refine ⟨a, ns, 2 + j, by show ([V.ref a, V.int (2 + (0 + (j : Int)))] : List V) = _; rw [show (2 + (0 + (j : Int))) = ((2 + j : Nat) : Int) by omega], same_l (s0.trans s8) hS, ?_⟩
        generalize cellAt ns (2 + j) = c3
        walk_at "goz"
        exact fun H9 m s9 fm => k m H9 s9 fm
      · obtain ⟨n0, n1, n2, rfl⟩ := num3 nl
        have i0 : atI ([n0, n1, n2].map V.int) 0 = some (V.int n0) := atI_nat (j := 0) rfl
        have i1 : atI ([n0, n1, n2].map V.int) 1 = some (V.int n1) := atI_nat (j := 1) rfl
        have i2 : atI ([n0, n1, n2].map V.int) 2 = some (V.int n2) := atI_nat (j := 2) rfl
        have s1 := s0.trans s8
        obtain ⟨w0, w1⟩ := ww
        have three : (wd = "pay" ∨ wd = "refund") → ∀ t, H8 t = none → Q (.ref t) (upd H8 t (.tup [.str wd, .int n0, .int n1])) := fun hw t ht => by
          have dn := dp_tup_new has_none ht (.cons (.str wd) (.cons (.int n0) (.cons (.int n1) .nil))) (K := K)
          rw [off_none] at dn
          refine q _ _ (.num wd [n0, n1]) (s1.trans (same_new ht)) ⟨w0, ?_, fun n hn => nf n (by
            rcases List.mem_cons.mp hn with rfl | hn
            · simp
            · rw [List.mem_singleton.mp hn]; simp)⟩ dn
          rcases w1 with w1 | w1
          · exact w1.2
          · exact (hw.elim w1.1 w1.2.1).elim
        walk_at "goz"
        refine ite2 (fun h1 => ?_) (fun h1 => ?_)
        · walk_at "goz"
          exact three (.inl (str_yes h1))
        have n1' := str_not h1
        walk_at "goz"
        refine ite2 (fun h2 => ?_) (fun h2 => ?_)
        · walk_at "goz"
          exact three (.inr (str_yes h2))
        have n2' := str_not h2
        walk_at "goz"
        intro t ht
        have dn := dp_tup_new has_none ht (.cons (.str wd) (.cons (.int n0) (.cons (.int n1) (.cons (.int n2) .nil)))) (K := K)
        rw [off_none] at dn
        refine q _ _ (.num wd [n0, n1, n2]) (s1.trans (same_new ht)) ⟨w0, ?_, nf⟩ dn
        rcases w1 with w1 | w1
        · exact (w1.1.elim n1' n2').elim
        · exact w1.2.2
end
section
variable {P : Program} {w : World} {K : PySem.W.Frag} {mg : Str → Option Value} {base : Heap}
open NumText TL
/-- a text of plain signs, n at most -/
def PlainN (z : Str) (n : Nat) : Prop := z.length ≤ n ∧ ∀ c ∈ z.cps.toList, c < 128
theorem PlainN.pl {z : Str} {n : Nat} (h : PlainN z n) (hn : n ≤ 90000) : Plain z := ⟨Nat.le_trans h.1 hn, h.2⟩
theorem PlainN.app {y z : Str} {n m : Nat} (a : PlainN y n) (b : PlainN z m) : PlainN (y ++ z) (n + m) := by
  refine ⟨?_, fun c hc => ?_⟩
  · have := a.1
    have := b.1
    rw [len_cps, cps_app, List.length_append, ← len_cps, ← len_cps]
    omega
  · rw [cps_app] at hc
    exact (List.mem_append.mp hc).elim (a.2 c) (b.2 c)
theorem PlainN.mono {z : Str} {n m : Nat} (h : PlainN z n) (l : n ≤ m) : PlainN z m := ⟨Nat.le_trans h.1 l, h.2⟩
theorem cutS_len2 {z : Str} {i : Int} (h0 : 0 ≤ i) (d : Nat) : (cutS z none (some i)).length + (cutS z (some (i + d)) none).length ≤ z.length := by
  obtain ⟨k, rfl⟩ : ∃ k : Nat, i = (k : Int) := ⟨i.toNat, by omega⟩
  have e1 : (cutS z none (some (k : Int))).length = ((z.cps.toList.drop (HT.sIx z.length 0 none)).take (HT.sIx z.length z.length (some (k : Int)) - HT.sIx z.length 0 none)).length := by rw [len_cps]; rfl
  have e2 : (cutS z (some ((k : Int) + d)) none).length = ((z.cps.toList.drop (HT.sIx z.length 0 (some ((k : Int) + d)))).take (HT.sIx z.length z.length none - HT.sIx z.length 0 (some ((k : Int) + d)))).length := by rw [len_cps]; rfl
  rw [e1, e2, show ((k : Int) + d) = ((k + d : Nat) : Int) by omega, HT.sIx_nat, HT.sIx_nat, HT.sIx_none, HT.sIx_none, List.length_take, List.length_take, List.length_drop, List.length_drop, ← len_cps]
  omega
theorem cutS_mem {z : Str} {lo hi : Option Int} : ∀ c ∈ (cutS z lo hi).cps.toList, c ∈ z.cps.toList := fun c hc => by
  have hc : c ∈ (z.cps.toList.drop (HT.sIx z.length 0 lo)).take (HT.sIx z.length z.length hi - HT.sIx z.length 0 lo) := hc
  exact List.mem_of_mem_drop (List.mem_of_mem_take hc)
theorem sign_at {l : List Nat} {i : Int} (h0 : 0 ≤ i) (h1 : i < l.length) (h : ∀ c ∈ l, c < 128) : ∃ c, atI l i = some c ∧ PlainN ⟨#[c]⟩ 1 := by
  obtain ⟨k, rfl⟩ : ∃ k : Nat, i = (k : Int) := ⟨i.toNat, by omega⟩
  have hk : k < l.length := by omega
  exact ⟨l[k], atI_nat (List.getElem?_eq_getElem hk), Nat.le_refl _, fun c hc => by
    rw [show ((⟨#[l[k]]⟩ : Str)).cps.toList = [l[k]] from rfl, List.mem_singleton] at hc
    rw [hc]; exact h _ (List.getElem_mem hk)⟩
theorem str_len_app (a b : Str) : (a ++ b).length = a.length + b.length := by rw [len_cps, cps_app, List.length_append, ← len_cps, ← len_cps]
theorem cut_pl {z : Str} {n : Nat} (h : PlainN z n) {lo hi : Option Int} : ∀ c ∈ (cutS z lo hi).cps.toList, c < 128 := fun c hc => h.2 c (cutS_mem c hc)
theorem glue {z y : Str} {n k : Nat} {i : Int} (d : Nat) (hz : PlainN z n) (hy : PlainN y k) (hi : 0 ≤ i) : PlainN (cutS z none (some i) ++ y ++ cutS z (some (i + d)) none) (n + k) := by
  have := cutS_len2 (z := z) hi d
  have := hy.1
  have := hz.1
  refine ⟨by rw [str_len_app, str_len_app]; omega, fun c hc => ?_⟩
  rw [cps_app, cps_app] at hc
  rcases List.mem_append.mp hc with hc | hc
  · exact (List.mem_append.mp hc).elim (cut_pl hz c) (hy.2 c)
  · exact cut_pl hz c hc
theorem glue0 {z : Str} {n : Nat} {i : Int} (d : Nat) (hz : PlainN z n) (hi : 0 ≤ i) : PlainN (cutS z none (some i) ++ cutS z (some (i + d)) none) n := by
  have := cutS_len2 (z := z) hi d
  have := hz.1
  refine ⟨by rw [str_len_app]; omega, fun c hc => ?_⟩
  rw [cps_app] at hc
  exact (List.mem_append.mp hc).elim (cut_pl hz c) (cut_pl hz c)
abbrev N_changed_by : List Str := ["_law_line", "_law_cell", "_law_some", "_law_sign", "_law_at", "_law_way"]
abbrev P_changed_by : List Str := ["_law_line", "_law_cell"]
theorem sc_changed_by : FnScope N_changed_by P_changed_by (defScope s_changed_by) := ⟨rfl, rfl, rfl, by decide +kernel, rfl, by decide +kernel, by decide +kernel⟩
def sp_changed_by : Sp := fun vs H Q _ => ∃ (z : Str) (n : Nat) (c : Int), vs = [.str z, .int c] ∧ PlainN z n ∧ n ≤ 80000 ∧ ∀ y, PlainN y (n + 2) → Q (.str y) H
theorem c_changed_by (T : Blt mg) (D : DefAt K mg "_law_changed_by" s_changed_by P_changed_by) : Cal P w K mg base CX0 1 "_law_changed_by" P_changed_by sp_changed_by := by
  refine cal_of D sc_changed_by (fun vs H Q E h => ?_) (fun f cdv A outer s H vs Q E hr h => ?_)
  · obtain ⟨z, n, c, rfl, _⟩ := h
    rfl
  · obtain ⟨z, n, c, rfl, hz, hn, q⟩ := h
    have zl := hz.1
    have hz2 : z.length ≤ sizeLine := Evl.sz_of (by omega)
    refine ⟨_, (pss_cons (ps_set (i := 2) sc_changed_by.nd rfl (Or.inl rfl) pe_str)
      (pss_cons (ps_set (i := 2) sc_changed_by.nd rfl (Or.inl rfl) (pe_op op_add_str (pv 2) pe_str))
      (pss_cons (ps_set (i := 3) sc_changed_by.nd rfl (Or.inl rfl) (pe_ix ix_str (pv 2) (pe_op op_mod (pe_op op_mod (pe_op op_mul (pv 1) pe_int) pe_int) pe_int) (fun _ _ => rfl)))
      (Evl.pss_cut (ps_if (pt_cmpR op_eq (pe_op op_mod (pe_op op_mod (pe_op op_mul (pv 1) pe_int) pe_int) pe_int) pe_int (nomark _))
        (pss_one (ps_set (i := 3) sc_changed_by.nd rfl (Or.inl rfl) (pe_ix ix_str pe_str (pe_op op_mod (pv 1) pe_int) (fun _ _ => rfl))))
        pss_nil)
      (pss_cons (ps_set (i := 4) sc_changed_by.nd rfl (Or.inl rfl) (pe_op op_mod (pe_op op_mod (pe_op op_mul (pv 1) pe_int) pe_int) (pe_op op_add (pe_callB call_len_str (by rfl) T.m_len PySem.boot_len (pa_cons (pv 0) pa_nil)) pe_int)))
      (pss_cons (ps_set (i := 5) sc_changed_by.nd rfl (Or.inl rfl) (pe_op op_mod (pv 1) pe_int))
      (pss_cons (ps_if (pt_cmpR op_eq (pv 5) pe_int (nomark _))
        (pss_one (ps_ret (pe_op op_add_str (pe_op op_add_str (pe_slice sl_str (pv 0) po_none (po_some (pv 4))) (pv 3)) (pe_slice sl_str (pv 0) (po_some (pv 4)) po_none))))
        pss_nil)
      (pss_cons (ps_if (pt_cmpR op_eq (pv 5) pe_int (nomark _))
        (pss_one (ps_ret (pe_op op_add_str (pe_op op_add_str (pe_slice sl_str (pv 0) po_none (po_some (pv 4))) (pv 3)) (pe_slice sl_str (pv 0) (po_some (pe_op op_add (pv 4) pe_int)) po_none))))
        pss_nil)
      (pss_cons (ps_if (pt_cmpR op_eq (pv 5) pe_int (nomark _))
        (pss_one (ps_ret (pe_op op_add_str (pe_op op_add_str (pe_slice sl_str (pv 0) po_none (po_some (pv 4))) pe_str) (pe_slice sl_str (pv 0) (po_some (pv 4)) po_none))))
        pss_nil)
      (pss_one (ps_ret (pe_op op_add_str (pe_slice sl_str (pv 0) po_none (po_some (pv 4))) (pe_slice sl_str (pv 0) (po_some (pe_op op_add (pv 4) pe_int)) po_none))))))))))))), ?_⟩
    have m94 : 0 ≤ c * 48271 % 10007 % 94 ∧ c * 48271 % 10007 % 94 < 94 := ⟨Int.emod_nonneg _ (by decide), Int.emod_lt_of_pos _ (by decide)⟩
    have m7 : 0 ≤ c % 7 ∧ c % 7 < 7 := ⟨Int.emod_nonneg _ (by decide), Int.emod_lt_of_pos _ (by decide)⟩
    walk_at "goz"
    have es : ((" ,0123456789abcdefghijklmnopqrstuvwxyzABCDEFGHIJKLMNOPQRSTUVWXYZ" : Str) ++ ("!\"#$&'()*+-./:;<=>?\x40[\\]^_`{|}~" : Str)).cps.toList.length = 94 ∧ ∀ c ∈ ((" ,0123456789abcdefghijklmnopqrstuvwxyzABCDEFGHIJKLMNOPQRSTUVWXYZ" : Str) ++ ("!\"#$&'()*+-./:;<=>?\x40[\\]^_`{|}~" : Str)).cps.toList, c < 128 := by decide +kernel
    have e7 : ((" ,0a-9o" : Str)).cps.toList.length = 7 ∧ ∀ c ∈ ((" ,0a-9o" : Str)).cps.toList, c < 128 := by decide +kernel
    have e2 : PlainN " 7" 2 := ⟨by decide +kernel, by decide +kernel⟩
    generalize ((" ,0123456789abcdefghijklmnopqrstuvwxyzABCDEFGHIJKLMNOPQRSTUVWXYZ" : Str) ++ ("!\"#$&'()*+-./:;<=>?\x40[\\]^_`{|}~" : Str)) = S at *
    have eS : S.length ≤ sizeLine := Evl.sz_of (by rw [len_cps]; omega)
    have eS7 : ((" ,0a-9o" : Str)).length ≤ sizeLine := Evl.sz_of (by rw [len_cps]; omega)
    obtain ⟨d, hd, pd⟩ := sign_at (l := S.cps.toList) m94.1 (by rw [es.1]; exact m94.2) es.2
    obtain ⟨d2, hd2, pd2⟩ := sign_at (l := ((" ,0a-9o" : Str)).cps.toList) m7.1 (by rw [e7.1]; exact m7.2) e7.2
    walk_at "goz"
    refine ⟨_, _, d, rfl, rfl, eS, hd, ?_⟩
    walk_at "goz"
    refine ⟨fun σ H' => ∃ y, PlainN y 1 ∧ σ = [some (.str z), some (.int c), some (.str S), some (.str y), none, none] ∧ H' = H, ?_, ?_⟩
    · walk_at "goz"
      refine ite2 (fun h => ?_) (fun h => ?_)
      · walk_at "goz"
        refine ⟨_, _, d2, rfl, rfl, eS7, hd2, ?_⟩
        exact ⟨_, pd2, rfl, rfl⟩
      · exact ⟨_, pd, rfl, rfl⟩
    rintro σ H' ⟨y, py, rfl, rfl⟩
    walk_at "goz"
    have mi : 0 ≤ c * 48271 % 10037 % ((z.length : Nat) + 1 : Int) := Int.emod_nonneg _ (by omega)
    have l0 := cutS_len2 (z := z) mi 0
    have l1 := cutS_len2 (z := z) mi 1
    rw [show c * 48271 % 10037 % ((z.length : Nat) + 1 : Int) + ((0 : Nat) : Int) = c * 48271 % 10037 % ((z.length : Nat) + 1 : Int) by omega] at l0
    have pA : ∀ lo hi, PlainN (cutS z lo hi) (cutS z lo hi).length := fun lo hi => ⟨Nat.le_refl _, fun c hc => hz.2 c (cutS_mem c hc)⟩
    have py1 := py.1
    have e21 := e2.1
    have lapp : ∀ a b : Str, (a ++ b).length = a.length + b.length := fun a b => by rw [len_cps, cps_app, List.length_append, ← len_cps, ← len_cps]
    have l1' : (cutS z none (some (c * 48271 % 10037 % ((z.length : Nat) + 1 : Int)))).length + (cutS z (some (c * 48271 % 10037 % ((z.length : Nat) + 1 : Int) + 1)) none).length ≤ z.length := l1
    have g0 := fun {y k} (py : PlainN y k) => glue (y := y) 0 hz py mi
    have g1 := glue 1 hz py mi
    have g2 := glue0 1 hz mi
    simp only [Int.natCast_zero, Int.add_zero] at g0
    refine ite2 (fun h => ?_) (fun h => ?_)
    · walk_at "goz"
      refine ⟨Evl.sz_of (by omega), ?_⟩
      walk_at "goz"
      refine ⟨Evl.sz_of (by rw [str_len_app]; omega), ?_⟩
      exact q _ ((g0 py).mono (by omega))
    walk_at "goz"
    refine ite2 (fun h => ?_) (fun h => ?_)
    · walk_at "goz"
      refine ⟨Evl.sz_of (by omega), ?_⟩
      walk_at "goz"
      refine ⟨Evl.sz_of (by rw [str_len_app]; omega), ?_⟩
      exact q _ (PlainN.mono g1 (by omega))
    walk_at "goz"
    refine ite2 (fun h => ?_) (fun h => ?_)
    · walk_at "goz"
      refine ⟨Evl.sz_of (by omega), ?_⟩
      walk_at "goz"
      refine ⟨Evl.sz_of (by rw [str_len_app]; omega), ?_⟩
      exact q _ ((g0 e2).mono (by omega))
    walk_at "goz"
    exact q _ (PlainN.mono g2 (by omega))
abbrev O1 : List Str := ["", " ", "order", "order ", "orders a 1 1 1", "order a 1 1", "order a 1 1 1 1", "order a 1 1 1,b 1 1 1"]
abbrev O2 : List Str := ["order a 1 1 1,  b 1 1 1", "order a 1 1 1, ", "order , a 1 1 1", "order  a 1 1 1", "Order a 1 1 1"]
abbrev O3 : List Str := ["pay 1", "pay", "pay 1 2 3", "pay 01 2", "pay 1 00", "pay -1 2", "pay +1 2", "pay 1 2 ", " pay 1 2"]
abbrev O4 : List Str := ["pay  1 2", "pays 1 2", "move 1 2", "deliver 1 2 3 4", "deliver 1 2 x", "refund 1 1_0", "none"]
abbrev O5 : List Str := ["pay 0 " ++ Txt.mul "1" 31, "order abcdefghijklm 1 1 1"]
theorem odd_pl : ∀ y ∈ O1 ++ O2 ++ O3 ++ O4 ++ O5, PlainN y 100 := by
  unfold PlainN
  decide +kernel
abbrev N_odd_text : List Str := ["_law_cell", "_law_some"]
abbrev P_odd_text : List Str := ["_law_cell"]
theorem sc_odd_text : FnScope N_odd_text P_odd_text (defScope s_odd_text) := ⟨rfl, rfl, rfl, by decide +kernel, rfl, by decide +kernel, by decide +kernel⟩
def sp_odd_text : Sp := fun vs H Q _ => ∃ c : Int, vs = [.int c] ∧ ∀ y H', Same H H' → PlainN y 100 → Q (.str y) H'
theorem c_odd_text (T : Blt mg) (D : DefAt K mg "_law_odd_text" s_odd_text P_odd_text) : Cal P w K mg base CX0 1 "_law_odd_text" P_odd_text sp_odd_text := by
  refine cal_of D sc_odd_text (fun vs H Q E h => ?_) (fun f cdv A outer s H vs Q E hr h => ?_)
  · obtain ⟨c, rfl, _⟩ := h
    rfl
  · obtain ⟨c, rfl, q⟩ := h
    refine ⟨_, (pss_cons (ps_set (i := 1) sc_odd_text.nd rfl (Or.inl rfl) (pe_lst (pa_cons pe_str (pa_cons pe_str (pa_cons pe_str (pa_cons pe_str (pa_cons pe_str (pa_cons pe_str (pa_cons pe_str (pa_cons pe_str pa_nil))))))))))
      (pss_cons (ps_set (i := 1) sc_odd_text.nd rfl (Or.inl rfl) (pe_op op_cat (pv 1) (pe_lst (pa_cons pe_str (pa_cons pe_str (pa_cons pe_str (pa_cons pe_str (pa_cons pe_str pa_nil))))))))
      (pss_cons (ps_set (i := 1) sc_odd_text.nd rfl (Or.inl rfl) (pe_op op_cat (pv 1) (pe_lst (pa_cons pe_str (pa_cons pe_str (pa_cons pe_str (pa_cons pe_str (pa_cons pe_str (pa_cons pe_str (pa_cons pe_str (pa_cons pe_str (pa_cons pe_str pa_nil))))))))))))
      (pss_cons (ps_set (i := 1) sc_odd_text.nd rfl (Or.inl rfl) (pe_op op_cat (pv 1) (pe_lst (pa_cons pe_str (pa_cons pe_str (pa_cons pe_str (pa_cons pe_str (pa_cons pe_str (pa_cons pe_str (pa_cons pe_str pa_nil))))))))))
      (pss_cons (ps_set (i := 1) sc_odd_text.nd rfl (Or.inl rfl) (pe_op op_cat (pv 1) (pe_lst (pa_cons (pe_op op_add_str pe_str (pe_op op_mulS pe_str pe_int)) (pa_cons pe_str pa_nil)))))
      (pss_one (ps_ret (pe_ix (kx_list K) (pv 1) (pe_op op_mod (pv 0) pe_int) (fun _ _ => rfl))))))))), ?_⟩
    walk_at "goz"
    intro t1 g1
    have s1 := same_new (o := .lst (O1.map V.str)) g1
    have e1 : upd H t1 (.lst (O1.map V.str)) t1 = some (.lst (O1.map V.str)) := upd_same
    change Same H (upd H t1 (.lst [V.str "", V.str " ", V.str "order", V.str "order ", V.str "orders a 1 1 1", V.str "order a 1 1", V.str "order a 1 1 1 1", V.str "order a 1 1 1,b 1 1 1"])) at s1
    change upd H t1 (.lst [V.str "", V.str " ", V.str "order", V.str "order ", V.str "orders a 1 1 1", V.str "order a 1 1", V.str "order a 1 1 1 1", V.str "order a 1 1 1,b 1 1 1"]) t1 = _ at e1
    generalize upd H t1 (.lst [V.str "", V.str " ", V.str "order", V.str "order ", V.str "orders a 1 1 1", V.str "order a 1 1", V.str "order a 1 1 1 1", V.str "order a 1 1 1,b 1 1 1"]) = H1 at *
    walk_at "goz"
    intro a2 b2
    have u2 := same_new (o := .lst (O2.map V.str)) b2
    have v2 : upd H1 a2 (.lst (O2.map V.str)) a2 = some (.lst (O2.map V.str)) := upd_same
    have w2 := u2 _ _ e1
    change Same H1 (upd H1 a2 (.lst [V.str "order a 1 1 1,  b 1 1 1", V.str "order a 1 1 1, ", V.str "order , a 1 1 1", V.str "order  a 1 1 1", V.str "Order a 1 1 1"])) at u2
    change upd H1 a2 (.lst [V.str "order a 1 1 1,  b 1 1 1", V.str "order a 1 1 1, ", V.str "order , a 1 1 1", V.str "order  a 1 1 1", V.str "Order a 1 1 1"]) a2 = _ at v2
    change upd H1 a2 (.lst [V.str "order a 1 1 1,  b 1 1 1", V.str "order a 1 1 1, ", V.str "order , a 1 1 1", V.str "order  a 1 1 1", V.str "Order a 1 1 1"]) t1 = _ at w2
    generalize upd H1 a2 (.lst [V.str "order a 1 1 1,  b 1 1 1", V.str "order a 1 1 1, ", V.str "order , a 1 1 1", V.str "order  a 1 1 1", V.str "Order a 1 1 1"]) = J2 at *
    walk_at "goz"
    refine ⟨_, _, _, _, rfl, rfl, w2, v2, Evl.sz_of (by decide), fun t2 g2 => ?_⟩
    rw [← List.map_append]
    have s2 := same_new (o := .lst ((O1 ++ O2).map V.str)) g2
    have e2 : upd J2 t2 (.lst ((O1 ++ O2).map V.str)) t2 = some (.lst ((O1 ++ O2).map V.str)) := upd_same
    generalize upd J2 t2 (.lst ((O1 ++ O2).map V.str)) = H2 at *
    walk_at "goz"
    intro a3 b3
    have u3 := same_new (o := .lst (O3.map V.str)) b3
    have v3 : upd H2 a3 (.lst (O3.map V.str)) a3 = some (.lst (O3.map V.str)) := upd_same
    have w3 := u3 _ _ e2
    change Same H2 (upd H2 a3 (.lst [V.str "pay 1", V.str "pay", V.str "pay 1 2 3", V.str "pay 01 2", V.str "pay 1 00", V.str "pay -1 2", V.str "pay +1 2", V.str "pay 1 2 ", V.str " pay 1 2"])) at u3
    change upd H2 a3 (.lst [V.str "pay 1", V.str "pay", V.str "pay 1 2 3", V.str "pay 01 2", V.str "pay 1 00", V.str "pay -1 2", V.str "pay +1 2", V.str "pay 1 2 ", V.str " pay 1 2"]) a3 = _ at v3
    change upd H2 a3 (.lst [V.str "pay 1", V.str "pay", V.str "pay 1 2 3", V.str "pay 01 2", V.str "pay 1 00", V.str "pay -1 2", V.str "pay +1 2", V.str "pay 1 2 ", V.str " pay 1 2"]) t2 = _ at w3
    generalize upd H2 a3 (.lst [V.str "pay 1", V.str "pay", V.str "pay 1 2 3", V.str "pay 01 2", V.str "pay 1 00", V.str "pay -1 2", V.str "pay +1 2", V.str "pay 1 2 ", V.str " pay 1 2"]) = J3 at *
    walk_at "goz"
    refine ⟨_, _, _, _, rfl, rfl, w3, v3, Evl.sz_of (by decide), fun t3 g3 => ?_⟩
    rw [← List.map_append]
    have s3 := same_new (o := .lst ((O1 ++ O2 ++ O3).map V.str)) g3
    have e3 : upd J3 t3 (.lst ((O1 ++ O2 ++ O3).map V.str)) t3 = some (.lst ((O1 ++ O2 ++ O3).map V.str)) := upd_same
    generalize upd J3 t3 (.lst ((O1 ++ O2 ++ O3).map V.str)) = H3 at *
    walk_at "goz"
    intro a4 b4
    have u4 := same_new (o := .lst (O4.map V.str)) b4
    have v4 : upd H3 a4 (.lst (O4.map V.str)) a4 = some (.lst (O4.map V.str)) := upd_same
    have w4 := u4 _ _ e3
    change Same H3 (upd H3 a4 (.lst [V.str "pay  1 2", V.str "pays 1 2", V.str "move 1 2", V.str "deliver 1 2 3 4", V.str "deliver 1 2 x", V.str "refund 1 1_0", V.str "none"])) at u4
    change upd H3 a4 (.lst [V.str "pay  1 2", V.str "pays 1 2", V.str "move 1 2", V.str "deliver 1 2 3 4", V.str "deliver 1 2 x", V.str "refund 1 1_0", V.str "none"]) a4 = _ at v4
    change upd H3 a4 (.lst [V.str "pay  1 2", V.str "pays 1 2", V.str "move 1 2", V.str "deliver 1 2 3 4", V.str "deliver 1 2 x", V.str "refund 1 1_0", V.str "none"]) t3 = _ at w4
    generalize upd H3 a4 (.lst [V.str "pay  1 2", V.str "pays 1 2", V.str "move 1 2", V.str "deliver 1 2 3 4", V.str "deliver 1 2 x", V.str "refund 1 1_0", V.str "none"]) = J4 at *
    walk_at "goz"
    refine ⟨_, _, _, _, rfl, rfl, w4, v4, Evl.sz_of (by decide), fun t4 g4 => ?_⟩
    rw [← List.map_append]
    have s4 := same_new (o := .lst ((O1 ++ O2 ++ O3 ++ O4).map V.str)) g4
    have e4 : upd J4 t4 (.lst ((O1 ++ O2 ++ O3 ++ O4).map V.str)) t4 = some (.lst ((O1 ++ O2 ++ O3 ++ O4).map V.str)) := upd_same
    generalize upd J4 t4 (.lst ((O1 ++ O2 ++ O3 ++ O4).map V.str)) = H4 at *
    walk_at "goz"
    intro a5 b5
    have u5 := same_new (o := .lst (O5.map V.str)) b5
    have v5 : upd H4 a5 (.lst (O5.map V.str)) a5 = some (.lst (O5.map V.str)) := upd_same
    have w5 := u5 _ _ e4
    change Same H4 (upd H4 a5 (.lst [V.str ("pay 0 " ++ Txt.mul "1" 31), V.str "order abcdefghijklm 1 1 1"])) at u5
    change upd H4 a5 (.lst [V.str ("pay 0 " ++ Txt.mul "1" 31), V.str "order abcdefghijklm 1 1 1"]) a5 = _ at v5
    change upd H4 a5 (.lst [V.str ("pay 0 " ++ Txt.mul "1" 31), V.str "order abcdefghijklm 1 1 1"]) t4 = _ at w5
    generalize upd H4 a5 (.lst [V.str ("pay 0 " ++ Txt.mul "1" 31), V.str "order abcdefghijklm 1 1 1"]) = J5 at *
    walk_at "goz"
    refine ⟨_, _, _, _, rfl, rfl, w5, v5, Evl.sz_of (by decide), fun t5 g5 => ?_⟩
    rw [← List.map_append]
    have s5 := same_new (o := .lst ((O1 ++ O2 ++ O3 ++ O4 ++ O5).map V.str)) g5
    have e5 : upd J5 t5 (.lst ((O1 ++ O2 ++ O3 ++ O4 ++ O5).map V.str)) t5 = some (.lst ((O1 ++ O2 ++ O3 ++ O4 ++ O5).map V.str)) := upd_same
    generalize upd J5 t5 (.lst ((O1 ++ O2 ++ O3 ++ O4 ++ O5).map V.str)) = H5 at *
    have m31 : 0 ≤ c % 31 ∧ c % 31 < 31 := ⟨Int.emod_nonneg _ (by decide), Int.emod_lt_of_pos _ (by decide)⟩
    have ol : (O1 ++ O2 ++ O3 ++ O4 ++ O5).length = 31 := rfl
    have op := odd_pl
    obtain ⟨k, hk, hk2⟩ : ∃ k : Nat, c % 31 = (k : Int) ∧ k < (O1 ++ O2 ++ O3 ++ O4 ++ O5).length := ⟨(c % 31).toNat, by omega, by omega⟩
    have st := (((s1.trans u2).trans s2).trans (u3.trans s3)).trans ((u4.trans s4).trans (u5.trans s5))
    generalize O1 ++ O2 ++ O3 ++ O4 ++ O5 = OO at *
    have ia : atI (OO.map V.str) (c % 31) = some (V.str OO[k]) := by
      rw [hk]
      exact atI_nat (by rw [List.getElem?_map, List.getElem?_eq_getElem hk2]; rfl)
    walk_at "goz"
    exact q _ _ st (op _ (List.getElem_mem hk2))
end
section
variable {P : Program} {w : World} {K : PySem.W.Frag} {mg : Str → Option Value} {base : Heap}
open NumText TL
abbrev N_refused_by_any : List Str := ["_law_line", "_law_e"]
abbrev P_refused_by_any : List Str := ["_law_line"]
theorem sc_refused_by_any : FnScope N_refused_by_any P_refused_by_any (defScope s_refused_by_any) := ⟨rfl, rfl, rfl, by decide +kernel, rfl, by decide +kernel, by decide +kernel⟩
def sp_refused_by_any : Sp := fun vs H Q _ => ∃ z : Str, vs = [.str z] ∧ Plain z ∧ deedOf z = none ∧ ∀ H', Same H H' → Q (.bl true) H'
theorem c_refused_by_any {cl : Str → Addr} {cF : Addr} (ER : FlowE K mg cl cF ["NoDeed"]) (c_read : Cal P w K mg base (L2.CX P w) 4 "read" P_read (sp_read K cl)) (c_of_one_class : CalE P w K mg base 1 "_law_of_one_class" P_of_one_class (sp_one cl ["NoDeed"])) (D : DefAt K mg "_law_refused_by_any" s_refused_by_any P_refused_by_any) :
    Cal P w K mg base CX0 5 "_law_refused_by_any" P_refused_by_any sp_refused_by_any := by
  refine cal_of D sc_refused_by_any (fun vs H Q E h => ?_) (fun f cdv A outer s H vs Q E hr h => ?_)
  · obtain ⟨z, rfl, _⟩ := h
    rfl
  · obtain ⟨z, rfl, hz, no, q⟩ := h
    refine ⟨_, (pss_cons (ps_try_as (i := 1) rfl rfl sc_refused_by_any.nd rfl rfl ⟨by rfl, by decide, .inl (ER.g "FlowError" (by decide))⟩ takes0 (fun W pn xe tk _ => (pss_one (ps_expr (pe_calS c_read (hr.mono (by decide)) (fun σ => passAt tk σ) (pa_cons (pv 0) pa_nil)))))
        (fun a oe cls d pn hz hf => (pss_one (ps_ret (pe_calE c_of_one_class (hr.mono (by decide)) hz hf (pa_cons (pv 1) pa_nil))))))
      (pss_one (ps_ret pe_bl))), ?_⟩
    walk_at "goz"
    refine ⟨fun _ => False, z, rfl, hz, has_none, (fun d e => by rw [no] at e; cases e), fun e H1 s1 => ?_⟩
    refine ⟨true, ER.x "NoDeed" (by decide), fun _ a ha => ?_, fun z => nomatch z⟩
    walk_at "goz"
    exact ⟨"NoDeed", by decide, rfl, rfl, fun H2 s2 => q H2 (s1.trans s2)⟩
theorem TD.Wr.len13 {d : TD} (W : d.Wr) : (textOf d).length ≤ 13000 := by
  cases d with
  | ord ls =>
    obtain ⟨_, h1, h⟩ := W
    have jl := join_len ", " (ls.map lineT)
    have jm := sum_le (k := 124) (ns := (ls.map lineT).map (·.length)) (fun n hn => by
      obtain ⟨p, hp, rfl⟩ := List.mem_map.mp hn
      obtain ⟨x, hx', rfl⟩ := List.mem_map.mp hp
      exact lineT_len (h x hx'))
    rw [List.length_map, List.length_map] at jm
    rw [List.length_map, show ((", " : Str)).length = 2 by decide +kernel] at jl
    show ("order " ++ Txt.join ", " (ls.map lineT)).length ≤ 13000
    rw [str_len_app, show (("order " : Str)).length = 6 by decide +kernel]
    omega
  | num w ns =>
    obtain ⟨n2, n3⟩ := num_count W
    obtain ⟨h0, h1, h⟩ := W
    have jl := join_len " " (w :: ns.map numT)
    have jm := sum_le (k := 30) (ns := (w :: ns.map numT).map (·.length)) (fun n hn => by
      obtain ⟨p, hp, rfl⟩ := List.mem_map.mp hn
      rcases List.mem_cons.mp hp with rfl | hp
      · have := word_len h1; omega
      · obtain ⟨x, hx', rfl⟩ := List.mem_map.mp hp
        exact numT_len (h x hx').1 (h x hx').2)
    rw [List.length_map, List.length_cons, List.length_map] at jm
    rw [List.length_cons, List.length_map, show ((" " : Str)).length = 1 by decide +kernel] at jl
    show (Txt.join " " (w :: ns.map numT)).length ≤ 13000
    omega
/-- what is read is told alike -/
theorem numOf_ok {z : Str} {n : Int} (h : numOf z = some n) : 0 ≤ n := by
  unfold numOf at h
  split at h
  · have := Option.some.inj h; omega
  · cases h
theorem lineOf_ok {z : Str} {t : LineT} (h : lineOf z = some t) : itemOk t.item = true := by
  unfold lineOf at h
  generalize Txt.split z " " = L at h
  unfold line4 at h
  split at h
  · rename_i a b c d
    by_cases ha : itemOk a = true
    · rw [if_pos ha] at h
      cases eb : numOf b with
      | none => rw [eb] at h; cases h
      | some nb =>
        cases ec : numOf c with
        | none => rw [eb, ec] at h; cases h
        | some nc =>
          cases ed : numOf d with
          | none => rw [eb, ec, ed] at h; cases h
          | some nd =>
            rw [eb, ec, ed] at h
            cases h
            exact ha
    · rw [if_neg ha] at h; cases h
  · cases h
theorem seqO_each {α β : Type} {f : α → Option β} : ∀ {l : List α} {ys : List β}, seqO f l = some ys → ∀ y ∈ ys, ∃ x ∈ l, f x = some y
  | [], ys, h, y, hy => by cases h; cases hy
  | z :: r, ys, h, y, hy => by
    unfold seqO at h
    cases hz : f z with
    | none => rw [hz] at h; cases h
    | some v =>
      cases hr : seqO f r with
      | none => rw [hz, hr] at h; cases h
      | some vs =>
        rw [hz, hr] at h
        cases h
        rcases List.mem_cons.mp hy with rfl | hy
        · exact ⟨z, .head _, hz⟩
        · obtain ⟨x, hx, e⟩ := seqO_each hr y hy
          exact ⟨x, .tail _ hx, e⟩
theorem parts_le {w : Str} {k : Nat} (h : partsOf w = some k) : k ≤ 4 := by
  unfold partsOf at h
  split at h
  · have := Option.some.inj h; omega
  · split at h
    · have := Option.some.inj h; omega
    · split at h
      · have := Option.some.inj h; omega
      · cases h
theorem deedOf_alike {z : Str} (hz : Plain z) {d : TD} (h : deedOf z = some d) : AlikeD d.d := by
  obtain ⟨pw, pr⟩ := partition_plain (y := " ") blank_ne hz
  unfold deedOf at h
  by_cases ho : (Txt.partition z " ").1 = "order"
  · rw [if_pos ho] at h
    cases e : seqO lineOf (Txt.split (Txt.partition z " ").2.2 ", ") with
    | none => rw [e] at h; cases h
    | some ls =>
      rw [e] at h
      cases h
      have sl := split_sz pr ", "
      have ll := seqO_len e
      refine .inr ⟨ls, rfl, by omega, fun t ht => ?_⟩
      obtain ⟨x, _, ex⟩ := seqO_each e t ht
      exact (item_plain (lineOf_ok ex)).ok
  · rw [if_neg ho] at h
    by_cases hp : partsOf (Txt.partition z " ").1 = some (Txt.split z " ").length
    · rw [if_pos hp] at h
      cases e : seqO numOf (Txt.split z " ").tail with
      | none => rw [e] at h; cases h
      | some ns =>
        rw [e] at h
        cases h
        have ll := seqO_len e
        have := parts_le hp
        rw [List.length_tail] at ll
        refine .inl ⟨_, _, rfl, ho, _, rfl, by rw [List.length_cons, List.length_map]; omega, fun p hp2 => ?_⟩
        rcases List.mem_cons.mp hp2 with rfl | hp2
        · exact .inl ⟨_, rfl, pw.ok⟩
        · obtain ⟨n, _, rfl⟩ := List.mem_map.mp hp2
          exact .inr ⟨n, rfl⟩
    · rw [if_neg hp] at h; cases h
abbrev N_law : List Str := ["_law_script", "_law_line", "_law_way", "_law_due", "_law_refused", "_law_found"]
abbrev P_law : List Str := ["_law_script"]
theorem sc_law : FnScope N_law P_law (defScope s_law) := ⟨rfl, rfl, rfl, by decide +kernel, rfl, by decide +kernel, by decide +kernel⟩
def sp_law (K : PySem.W.Frag) : Sp := fun vs H Q _ => ∃ (a : Addr) (ns : List Int), vs = [.ref a] ∧ SqL K H a (ns.map V.int) ∧ ns.length ≤ 63 ∧ ∀ H', Q (.bl true) H'
theorem ok_law {cl : Str → Addr} (T : Blt mg) (ER : NoX K mg cl) (c_cell_at : Cal P w K mg base CX0 1 "_law_cell_at" P_cell_at (sp_cell_at K)) (c_any_deed : Cal P w K mg base CX0 2 "_law_any_deed" P_any_deed (sp_any_deed K)) (c_text_of : Cal P w K mg base CX0 1 "_law_text_of" P_text_of (sp_text_of K))
    (c_changed_by : Cal P w K mg base CX0 1 "_law_changed_by" P_changed_by sp_changed_by) (c_odd_text : Cal P w K mg base CX0 1 "_law_odd_text" P_odd_text sp_odd_text) (c_deed_in : Cal P w K mg base CX0 3 "_law_deed_in" P_deed_in (sp_deed_in K)) (c_read : Cal P w K mg base (L2.CX P w) 4 "read" P_read (sp_read K cl))
    (c_refused_by_any : Cal P w K mg base CX0 5 "_law_refused_by_any" P_refused_by_any sp_refused_by_any) (c_deed_alike : Cal P w K mg base CX0 3 "_law_deed_alike" P_deed_alike (sp_deed_alike K)) {f : Addr} {fd : FuncData} (F : Fun K "law" "law" s_law f fd) : FnOk P w K mg base CX0 6 f fd ["_law_script"] (sp_law K) := by
  refine F.ok sc_law (fun vs H Q E h => ?_) (fun cdv A outer s H vs Q E hr h => ?_)
  · obtain ⟨a, ns, rfl, _⟩ := h
    rfl
  · obtain ⟨a, ns, rfl, hS, hl, q⟩ := h
    refine ⟨_, (pss_cons (ps_set (i := 1) sc_law.nd rfl (Or.inl rfl) (pe_cal c_text_of (hr.mono (by decide)) pass0 (pa_cons (pe_cal c_any_deed (hr.mono (by decide)) pass0 (pa_cons (pv 0) pa_nil)) pa_nil)))
      (pss_cons (ps_set (i := 2) sc_law.nd rfl (Or.inl rfl) (pe_op op_mod (pe_cal c_cell_at (hr.mono (by decide)) pass0 (pa_cons (pv 0) (pa_cons pe_int pa_nil))) pe_int))
      (Evl.pss_cut (ps_if (pt_cmpR op_gt (pv 2) pe_int (nomark _))
        (pss_one (ps_set (i := 1) sc_law.nd rfl (Or.inl rfl) (pe_cal c_changed_by (hr.mono (by decide)) pass0 (pa_cons (pv 1) (pa_cons (pe_cal c_cell_at (hr.mono (by decide)) pass0 (pa_cons (pv 0) (pa_cons pe_int pa_nil))) pa_nil)))))
        pss_nil)
      (Evl.pss_cut (ps_if (pt_cmpR op_eq (pv 2) pe_int (nomark _))
        (pss_one (ps_set (i := 1) sc_law.nd rfl (Or.inl rfl) (pe_cal c_changed_by (hr.mono (by decide)) pass0 (pa_cons (pv 1) (pa_cons (pe_cal c_cell_at (hr.mono (by decide)) pass0 (pa_cons (pv 0) (pa_cons pe_int pa_nil))) pa_nil)))))
        pss_nil)
      (Evl.pss_cut (ps_if (PW.pt (pw_or (pt_cmpR op_eq (pv 2) pe_int (nomark _)) (pw_or1 (pt_cmpR op_eq (pv 2) pe_int (nomark _)))))
        (pss_one (ps_set (i := 1) sc_law.nd rfl (Or.inl rfl) (pe_cal c_odd_text (hr.mono (by decide)) pass0 (pa_cons (pe_cal c_cell_at (hr.mono (by decide)) pass0 (pa_cons (pv 0) (pa_cons pe_int pa_nil))) pa_nil))))
        pss_nil)
      (pss_cons (ps_set (i := 3) sc_law.nd rfl (Or.inl rfl) (pe_cal c_deed_in (hr.mono (by decide)) pass0 (pa_cons (pv 1) pa_nil)))
      (pss_cons (ps_set (i := 4) sc_law.nd rfl (Or.inl rfl) pe_bl)
      (pss_cons (ps_set (i := 5) sc_law.nd rfl (Or.inl rfl) pe_non)
      (pss_cons (ps_try_many rfl rfl takes0 (fun W pn xe tk _ => (pss_one (ps_set (i := 5) sc_law.nd rfl (Or.inl rfl) (pe_calS c_read (hr.mono (by decide)) (fun σ => passAt tk σ) (pa_cons (pv 1) pa_nil)))))
        (.cons ⟨by rfl, by decide, .inl (ER.g "NoDeed" (by decide))⟩ (fun _ _ _ _ _ _ _ => (pss_one (ps_set (i := 4) sc_law.nd rfl (Or.inl rfl) pe_bl)))
        .nil))
      (pss_cons (ps_if (pt_cmpR op_isN (pv 3) pe_non (nomark _))
        (pss_one (ps_ret (pe_and (pv 4) (pe_one (pe_cal c_refused_by_any (hr.mono (by decide)) pass0 (pa_cons (pv 1) pa_nil))))))
        pss_nil)
      (pss_one (ps_ret (pe_and (pe_not (pv 4)) (pe_one (pe_cal c_deed_alike (hr.mono (by decide)) pass0 (pa_cons (pv 5) (pa_cons (pv 3) pa_nil))))))))))))))))), ?_⟩
    walk_at "goz"
    refine ⟨a, ns, rfl, hS, fun H1 v d s1 W dv => ?_⟩
    walk_at "goz"
    refine ⟨v, d, rfl, dv, W.sm, fun H2 s2 => ?_⟩
    have hS2 := same_l (s1.trans s2) hS
    have p0 : PlainN (textOf d) 13000 := ⟨W.len13, W.plain.c⟩
    generalize textOf d = z0 at p0 ⊢
    walk_at "goz"
    refine ⟨a, ns, 9, rfl, hS2, ?_⟩
    generalize cellAt ns 9 = c9
    walk_at "goz"
    refine ⟨fun σ H' => ∃ z, PlainN z 13002 ∧ σ = [some (.ref a), some (.str z), some (.int (c9 % 8)), none, none, none] ∧ H' = H2, ?_, ?_⟩
    · walk_at "goz"
      refine ite2 (fun h => ?_) (fun h => ?_)
      · walk_at "goz"
        refine ⟨a, ns, 10, rfl, hS2, ?_⟩
        exact ⟨z0, 13000, _, rfl, p0, by decide, fun y py => ⟨y, py, rfl, rfl⟩⟩
      · exact ⟨z0, p0.mono (by decide), rfl, rfl⟩
    rintro σ H' ⟨z1, p1, rfl, rfl⟩
    walk_at "goz"
    refine ⟨fun σ H3 => ∃ z, PlainN z 13004 ∧ σ = [some (.ref a), some (.str z), some (.int (c9 % 8)), none, none, none] ∧ H3 = H', ?_, ?_⟩
    · walk_at "goz"
      refine ite2 (fun h => ?_) (fun h => ?_)
      · walk_at "goz"
        refine ⟨a, ns, 11, rfl, hS2, ?_⟩
        exact ⟨z1, 13002, _, rfl, p1, by decide, fun y py => ⟨y, py, rfl, rfl⟩⟩
      · exact ⟨z1, p1.mono (by decide), rfl, rfl⟩
    rintro σ H3 ⟨z2, p2, rfl, rfl⟩
    walk_at "goz"
    refine ⟨fun σ H4 => ∃ z, PlainN z 13004 ∧ σ = [some (.ref a), some (.str z), some (.int (c9 % 8)), none, none, none] ∧ Same H3 H4, ?_, ?_⟩
    · have odd : ∃ (a : Addr) (ns : List Int), True := ⟨a, ns, trivial⟩
      walk_at "goz"
      refine ite2 (fun h => ?_) (fun h => ?_)
      · walk_at "goz"
        refine ⟨a, ns, 10, rfl, hS2, ?_⟩
        exact ⟨_, rfl, fun y H4 s4 py => ⟨y, py.mono (by decide), rfl, s4⟩⟩
      · walk_at "goz"
        refine ite2 (fun h => ?_) (fun h => ?_)
        · walk_at "goz"
          refine ⟨a, ns, 10, rfl, hS2, ?_⟩
          exact ⟨_, rfl, fun y H4 s4 py => ⟨y, py.mono (by decide), rfl, s4⟩⟩
        · exact ⟨z2, p2, rfl, .refl _⟩
    rintro σ H4 ⟨z, pz, rfl, s4⟩
    have hz := pz.pl (by decide)
    walk_at "goz"
    refine ⟨fun _ => False, z, rfl, hz, has_none, fun d' e y H5 s5 dy => ?_, fun e H5 s5 => ?_⟩
    · rw [off_none] at dy
      obtain ⟨p, rfl⟩ := td_ref dy
      walk_at "goz"
      refine ⟨fun _ => False, z, rfl, hz, has_none, fun d2 e2 y2 H6 s6 dy2 => ?_, fun e2 => by rw [e] at e2; cases e2⟩
      rw [e] at e2
      cases e2
      rw [off_none] at dy2
      walk_at "goz"
      exact ⟨_, _, _, rfl, dy2, dy.same s6, deedOf_alike hz e, q H6⟩
    · walk_at "goz"
      refine ⟨fun _ => False, z, rfl, hz, has_none, (fun d2 e2 => by rw [e] at e2; cases e2), fun e2 H6 s6 => ?_⟩
      refine ⟨true, ER.x, fun _ a ha => ?_, fun z => nomatch z⟩
      walk_at "goz"
      exact fun H7 _ => q H7
end
theorem all_mk {l : PySem.W.OpenLaw} {w : World} {K : PySem.W.Frag} {h : Heap} {mg : Str → Option Value} {fa : Addr} (X : K.In h) (G : h.Ns mainGlobals mg) (hfa : mg "law" = some (.ref fa)) {f1 : Addr} {oc1 kV1 dc1 pm1 cd1 ct1 : Value} {od1 an1 : Option Addr} {sl1 : Array (Option Value)} {f2 : Addr} {oc2 kV2 dc2 pm2 cd2 ct2 : Value} {od2 an2 : Option Addr} {sl2 : Array (Option Value)} {f3 : Addr} {oc3 kV3 dc3 pm3 cd3 ct3 : Value} {od3 an3 : Option Addr} {sl3 : Array (Option Value)} {f4 : Addr} {oc4 kV4 dc4 pm4 cd4 ct4 : Value} {od4 an4 : Option Addr} {sl4 : Array (Option Value)} {f5 : Addr} {oc5 kV5 dc5 pm5 cd5 ct5 : Value} {od5 an5 : Option Addr} {sl5 : Array (Option Value)} {f6 : Addr} {oc6 kV6 dc6 pm6 cd6 ct6 : Value} {od6 an6 : Option Addr} {sl6 : Array (Option Value)} {f7 : Addr} {oc7 kV7 dc7 pm7 cd7 ct7 : Value} {od7 an7 : Option Addr} {sl7 : Array (Option Value)} {f8 : Addr} {oc8 kV8 dc8 pm8 cd8 ct8 : Value} {od8 an8 : Option Addr} {sl8 : Array (Option Value)} {f9 : Addr} {oc9 kV9 dc9 pm9 cd9 ct9 : Value} {od9 an9 : Option Addr} {sl9 : Array (Option Value)} {f10 : Addr} {oc10 kV10 dc10 pm10 cd10 ct10 : Value} {od10 an10 : Option Addr} {sl10 : Array (Option Value)} {f11 : Addr} {oc11 kV11 dc11 pm11 cd11 ct11 : Value} {od11 an11 : Option Addr} {sl11 : Array (Option Value)} {f12 : Addr} {oc12 kV12 dc12 pm12 cd12 ct12 : Value} {od12 an12 : Option Addr} {sl12 : Array (Option Value)} {f13 : Addr} {oc13 kV13 dc13 pm13 cd13 ct13 : Value} {od13 an13 : Option Addr} {sl13 : Array (Option Value)} {f14 : Addr} {oc14 kV14 dc14 pm14 cd14 ct14 : Value} {od14 an14 : Option Addr} {sl14 : Array (Option Value)} {f15 : Addr} {oc15 kV15 dc15 pm15 cd15 ct15 : Value} {od15 an15 : Option Addr} {sl15 : Array (Option Value)} {f16 : Addr} {oc16 kV16 dc16 pm16 cd16 ct16 : Value} {od16 an16 : Option Addr} {sl16 : Array (Option Value)} {f17 : Addr} {oc17 kV17 dc17 pm17 cd17 ct17 : Value} {od17 an17 : Option Addr} {sl17 : Array (Option Value)} {f18 : Addr} {oc18 kV18 dc18 pm18 cd18 ct18 : Value} {od18 an18 : Option Addr} {sl18 : Array (Option Value)} {f19 : Addr} {oc19 kV19 dc19 pm19 cd19 ct19 : Value} {od19 an19 : Option Addr} {sl19 : Array (Option Value)} {f20 : Addr} {oc20 kV20 dc20 pm20 cd20 ct20 : Value} {od20 an20 : Option Addr} {sl20 : Array (Option Value)} {f21 : Addr} {oc21 kV21 dc21 pm21 cd21 ct21 : Value} {od21 an21 : Option Addr} {sl21 : Array (Option Value)} {eNoDeed eNoLines eNoItem eNoNumber eFullBook eNoOrder eSameOrder eNoLine eTooMuch eNothingDone : Addr} {cF aD : Addr} {tL tF : Tok} {odD : Option Addr} {nD : Nat} {slD : Array (Option Value)} {aD_0 aD_1 aD_2 aD_3 aD_4 aD_5 aD_6 aD_7 : Addr} {od_0 od_1 od_2 od_3 od_4 od_5 od_6 od_7 : Option Addr} {nd_0 nd_1 nd_2 nd_3 nd_4 nd_5 nd_6 nd_7 : Nat} {sd_0 sd_1 sd_2 sd_3 sd_4 sd_5 sd_6 sd_7 : Array (Option Value)} {u0 v0 u1 v1 u2 v2 u3 v3 u4 v4 u5 v5 u6 v6 u7 v7 : Tok} 
    (a1 : PySem.W.nsIn K mainGlobals "is_item" = some (some (.ref f1))) (l1 : K.lookup f1 = some ⟨oc1, od1, .func (PySem.W.fnOf "is_item" "is_item" (defArgs s_is_item) (defBody s_is_item) (defScope s_is_item) .none kV1 dc1 pm1 an1 cd1 ct1), sl1⟩) (c1 : PySem.W.codeIn K cd1 "is_item" = true) (k1 : PySem.W.keepIn K (.ref f1) = true)
    (a2 : PySem.W.nsIn K mainGlobals "read" = some (some (.ref f2))) (l2 : K.lookup f2 = some ⟨oc2, od2, .func (PySem.W.fnOf "read" "read" (defArgs s_read) (defBody s_read) (defScope s_read) .none kV2 dc2 pm2 an2 cd2 ct2), sl2⟩) (c2 : PySem.W.codeIn K cd2 "read" = true) (k2 : PySem.W.keepIn K (.ref f2) = true)
    (a3 : PySem.W.nsIn K mainGlobals "_line" = some (some (.ref f3))) (l3 : K.lookup f3 = some ⟨oc3, od3, .func (PySem.W.fnOf "_line" "_line" (defArgs s__line) (defBody s__line) (defScope s__line) .none kV3 dc3 pm3 an3 cd3 ct3), sl3⟩) (c3 : PySem.W.codeIn K cd3 "_line" = true) (k3 : PySem.W.keepIn K (.ref f3) = true)
    (a4 : PySem.W.nsIn K mainGlobals "_number" = some (some (.ref f4))) (l4 : K.lookup f4 = some ⟨oc4, od4, .func (PySem.W.fnOf "_number" "_number" (defArgs s__number) (defBody s__number) (defScope s__number) .none kV4 dc4 pm4 an4 cd4 ct4), sl4⟩) (c4 : PySem.W.codeIn K cd4 "_number" = true) (k4 : PySem.W.keepIn K (.ref f4) = true)
    (a5 : PySem.W.nsIn K mainGlobals "_is_number" = some (some (.ref f5))) (l5 : K.lookup f5 = some ⟨oc5, od5, .func (PySem.W.fnOf "_is_number" "_is_number" (defArgs s__is_number) (defBody s__is_number) (defScope s__is_number) .none kV5 dc5 pm5 an5 cd5 ct5), sl5⟩) (c5 : PySem.W.codeIn K cd5 "_is_number" = true) (k5 : PySem.W.keepIn K (.ref f5) = true)
    (a6 : PySem.W.nsIn K mainGlobals "_law_cell_at" = some (some (.ref f6))) (l6 : K.lookup f6 = some ⟨oc6, od6, .func (PySem.W.fnOf "_law_cell_at" "_law_cell_at" (defArgs s_cell_at) (defBody s_cell_at) (defScope s_cell_at) .none kV6 dc6 pm6 an6 cd6 ct6), sl6⟩) (c6 : PySem.W.codeIn K cd6 "_law_cell_at" = true) (k6 : PySem.W.keepIn K (.ref f6) = true)
    (a7 : PySem.W.nsIn K mainGlobals "_law_whole" = some (some (.ref f7))) (l7 : K.lookup f7 = some ⟨oc7, od7, .func (PySem.W.fnOf "_law_whole" "_law_whole" (defArgs s_whole) (defBody s_whole) (defScope s_whole) .none kV7 dc7 pm7 an7 cd7 ct7), sl7⟩) (c7 : PySem.W.codeIn K cd7 "_law_whole" = true) (k7 : PySem.W.keepIn K (.ref f7) = true)
    (a8 : PySem.W.nsIn K mainGlobals "_law_number_by" = some (some (.ref f8))) (l8 : K.lookup f8 = some ⟨oc8, od8, .func (PySem.W.fnOf "_law_number_by" "_law_number_by" (defArgs s_number_by) (defBody s_number_by) (defScope s_number_by) .none kV8 dc8 pm8 an8 cd8 ct8), sl8⟩) (c8 : PySem.W.codeIn K cd8 "_law_number_by" = true) (k8 : PySem.W.keepIn K (.ref f8) = true)
    (a9 : PySem.W.nsIn K mainGlobals "_law_item_by" = some (some (.ref f9))) (l9 : K.lookup f9 = some ⟨oc9, od9, .func (PySem.W.fnOf "_law_item_by" "_law_item_by" (defArgs s_item_by) (defBody s_item_by) (defScope s_item_by) .none kV9 dc9 pm9 an9 cd9 ct9), sl9⟩) (c9 : PySem.W.codeIn K cd9 "_law_item_by" = true) (k9 : PySem.W.keepIn K (.ref f9) = true)
    (a10 : PySem.W.nsIn K mainGlobals "_law_any_deed" = some (some (.ref f10))) (l10 : K.lookup f10 = some ⟨oc10, od10, .func (PySem.W.fnOf "_law_any_deed" "_law_any_deed" (defArgs s_any_deed) (defBody s_any_deed) (defScope s_any_deed) .none kV10 dc10 pm10 an10 cd10 ct10), sl10⟩) (c10 : PySem.W.codeIn K cd10 "_law_any_deed" = true) (k10 : PySem.W.keepIn K (.ref f10) = true)
    (a11 : PySem.W.nsIn K mainGlobals "_law_text_of" = some (some (.ref f11))) (l11 : K.lookup f11 = some ⟨oc11, od11, .func (PySem.W.fnOf "_law_text_of" "_law_text_of" (defArgs s_text_of) (defBody s_text_of) (defScope s_text_of) .none kV11 dc11 pm11 an11 cd11 ct11), sl11⟩) (c11 : PySem.W.codeIn K cd11 "_law_text_of" = true) (k11 : PySem.W.keepIn K (.ref f11) = true)
    (a12 : PySem.W.nsIn K mainGlobals "_law_number_in" = some (some (.ref f12))) (l12 : K.lookup f12 = some ⟨oc12, od12, .func (PySem.W.fnOf "_law_number_in" "_law_number_in" (defArgs s_number_in) (defBody s_number_in) (defScope s_number_in) .none kV12 dc12 pm12 an12 cd12 ct12), sl12⟩) (c12 : PySem.W.codeIn K cd12 "_law_number_in" = true) (k12 : PySem.W.keepIn K (.ref f12) = true)
    (a13 : PySem.W.nsIn K mainGlobals "_law_line_in" = some (some (.ref f13))) (l13 : K.lookup f13 = some ⟨oc13, od13, .func (PySem.W.fnOf "_law_line_in" "_law_line_in" (defArgs s_line_in) (defBody s_line_in) (defScope s_line_in) .none kV13 dc13 pm13 an13 cd13 ct13), sl13⟩) (c13 : PySem.W.codeIn K cd13 "_law_line_in" = true) (k13 : PySem.W.keepIn K (.ref f13) = true)
    (a14 : PySem.W.nsIn K mainGlobals "_law_deed_in" = some (some (.ref f14))) (l14 : K.lookup f14 = some ⟨oc14, od14, .func (PySem.W.fnOf "_law_deed_in" "_law_deed_in" (defArgs s_deed_in) (defBody s_deed_in) (defScope s_deed_in) .none kV14 dc14 pm14 an14 cd14 ct14), sl14⟩) (c14 : PySem.W.codeIn K cd14 "_law_deed_in" = true) (k14 : PySem.W.keepIn K (.ref f14) = true)
    (a15 : PySem.W.nsIn K mainGlobals "_law_parts_alike" = some (some (.ref f15))) (l15 : K.lookup f15 = some ⟨oc15, od15, .func (PySem.W.fnOf "_law_parts_alike" "_law_parts_alike" (defArgs s_parts_alike) (defBody s_parts_alike) (defScope s_parts_alike) .none kV15 dc15 pm15 an15 cd15 ct15), sl15⟩) (c15 : PySem.W.codeIn K cd15 "_law_parts_alike" = true) (k15 : PySem.W.keepIn K (.ref f15) = true)
    (a16 : PySem.W.nsIn K mainGlobals "_law_deed_alike" = some (some (.ref f16))) (l16 : K.lookup f16 = some ⟨oc16, od16, .func (PySem.W.fnOf "_law_deed_alike" "_law_deed_alike" (defArgs s_deed_alike) (defBody s_deed_alike) (defScope s_deed_alike) .none kV16 dc16 pm16 an16 cd16 ct16), sl16⟩) (c16 : PySem.W.codeIn K cd16 "_law_deed_alike" = true) (k16 : PySem.W.keepIn K (.ref f16) = true)
    (a17 : PySem.W.nsIn K mainGlobals "_law_changed_by" = some (some (.ref f17))) (l17 : K.lookup f17 = some ⟨oc17, od17, .func (PySem.W.fnOf "_law_changed_by" "_law_changed_by" (defArgs s_changed_by) (defBody s_changed_by) (defScope s_changed_by) .none kV17 dc17 pm17 an17 cd17 ct17), sl17⟩) (c17 : PySem.W.codeIn K cd17 "_law_changed_by" = true) (k17 : PySem.W.keepIn K (.ref f17) = true)
    (a18 : PySem.W.nsIn K mainGlobals "_law_odd_text" = some (some (.ref f18))) (l18 : K.lookup f18 = some ⟨oc18, od18, .func (PySem.W.fnOf "_law_odd_text" "_law_odd_text" (defArgs s_odd_text) (defBody s_odd_text) (defScope s_odd_text) .none kV18 dc18 pm18 an18 cd18 ct18), sl18⟩) (c18 : PySem.W.codeIn K cd18 "_law_odd_text" = true) (k18 : PySem.W.keepIn K (.ref f18) = true)
    (a19 : PySem.W.nsIn K mainGlobals "_law_of_one_class" = some (some (.ref f19))) (l19 : K.lookup f19 = some ⟨oc19, od19, .func (PySem.W.fnOf "_law_of_one_class" "_law_of_one_class" (defArgs s_of_one_class) (defBody s_of_one_class) (defScope s_of_one_class) .none kV19 dc19 pm19 an19 cd19 ct19), sl19⟩) (c19 : PySem.W.codeIn K cd19 "_law_of_one_class" = true) (k19 : PySem.W.keepIn K (.ref f19) = true)
    (a20 : PySem.W.nsIn K mainGlobals "_law_refused_by_any" = some (some (.ref f20))) (l20 : K.lookup f20 = some ⟨oc20, od20, .func (PySem.W.fnOf "_law_refused_by_any" "_law_refused_by_any" (defArgs s_refused_by_any) (defBody s_refused_by_any) (defScope s_refused_by_any) .none kV20 dc20 pm20 an20 cd20 ct20), sl20⟩) (c20 : PySem.W.codeIn K cd20 "_law_refused_by_any" = true) (k20 : PySem.W.keepIn K (.ref f20) = true)
    (a21 : PySem.W.nsIn K mainGlobals "law" = some (some (.ref f21))) (l21 : K.lookup f21 = some ⟨oc21, od21, .func (PySem.W.fnOf "law" "law" (defArgs s_law) (defBody s_law) (defScope s_law) .none kV21 dc21 pm21 an21 cd21 ct21), sl21⟩) (c21 : PySem.W.codeIn K cd21 "law" = true) (k21 : PySem.W.keepIn K (.ref f21) = true)
    (z1 : PySem.W.nsIn K mainGlobals "len" = some none)
    (z2 : PySem.W.nsIn K mainGlobals "isinstance" = some none)
    (z3 : PySem.W.nsIn K mainGlobals "int" = some none)
    (z4 : PySem.W.nsIn K mainGlobals "bool" = some none)
    (z5 : PySem.W.nsIn K mainGlobals "str" = some none)
    (z6 : PySem.W.nsIn K mainGlobals "list" = some none)
    (z7 : PySem.W.nsIn K mainGlobals "tuple" = some none)
    (z8 : PySem.W.nsIn K mainGlobals "range" = some none)
    (z9 : PySem.W.nsIn K mainGlobals "sum" = some none)
    (z10 : PySem.W.nsIn K mainGlobals "min" = some none)
    (z11 : PySem.W.nsIn K mainGlobals "max" = some none)
    (z12 : PySem.W.nsIn K mainGlobals "abs" = some none)
    (z13 : PySem.W.nsIn K mainGlobals "ValueError" = some none)
    (z14 : PySem.W.nsIn K mainGlobals "enumerate" = some none)
    (z15 : PySem.W.nsIn K mainGlobals "all" = some none)
    (gFlowError : PySem.W.nsIn K mainGlobals "FlowError" = some (some (.ref cF)))
    (gNoDeed : PySem.W.nsIn K mainGlobals "NoDeed" = some (some (.ref eNoDeed)))
    (tyNoDeed : PySem.W.typeIn K (.ref eNoDeed) = some (.type "type"))
    (icNoDeed : PySem.W.isClsIn K eNoDeed = true)
    (gNoLines : PySem.W.nsIn K mainGlobals "NoLines" = some (some (.ref eNoLines)))
    (tyNoLines : PySem.W.typeIn K (.ref eNoLines) = some (.type "type"))
    (icNoLines : PySem.W.isClsIn K eNoLines = true)
    (gNoItem : PySem.W.nsIn K mainGlobals "NoItem" = some (some (.ref eNoItem)))
    (tyNoItem : PySem.W.typeIn K (.ref eNoItem) = some (.type "type"))
    (icNoItem : PySem.W.isClsIn K eNoItem = true)
    (gNoNumber : PySem.W.nsIn K mainGlobals "NoNumber" = some (some (.ref eNoNumber)))
    (tyNoNumber : PySem.W.typeIn K (.ref eNoNumber) = some (.type "type"))
    (icNoNumber : PySem.W.isClsIn K eNoNumber = true)
    (gFullBook : PySem.W.nsIn K mainGlobals "FullBook" = some (some (.ref eFullBook)))
    (tyFullBook : PySem.W.typeIn K (.ref eFullBook) = some (.type "type"))
    (icFullBook : PySem.W.isClsIn K eFullBook = true)
    (gNoOrder : PySem.W.nsIn K mainGlobals "NoOrder" = some (some (.ref eNoOrder)))
    (tyNoOrder : PySem.W.typeIn K (.ref eNoOrder) = some (.type "type"))
    (icNoOrder : PySem.W.isClsIn K eNoOrder = true)
    (gSameOrder : PySem.W.nsIn K mainGlobals "SameOrder" = some (some (.ref eSameOrder)))
    (tySameOrder : PySem.W.typeIn K (.ref eSameOrder) = some (.type "type"))
    (icSameOrder : PySem.W.isClsIn K eSameOrder = true)
    (gNoLine : PySem.W.nsIn K mainGlobals "NoLine" = some (some (.ref eNoLine)))
    (tyNoLine : PySem.W.typeIn K (.ref eNoLine) = some (.type "type"))
    (icNoLine : PySem.W.isClsIn K eNoLine = true)
    (gTooMuch : PySem.W.nsIn K mainGlobals "TooMuch" = some (some (.ref eTooMuch)))
    (tyTooMuch : PySem.W.typeIn K (.ref eTooMuch) = some (.type "type"))
    (icTooMuch : PySem.W.isClsIn K eTooMuch = true)
    (gNothingDone : PySem.W.nsIn K mainGlobals "NothingDone" = some (some (.ref eNothingDone)))
    (tyNothingDone : PySem.W.typeIn K (.ref eNothingDone) = some (.type "type"))
    (icNothingDone : PySem.W.isClsIn K eNothingDone = true)
    (qNoDeed : PySem.W.excIn K eNoDeed [.type "ValueError", .type "Exception", .type "BaseException", .type "object"] "ValueError.__new__" = true)
    (kpNoDeed : PySem.W.keepIn K (.ref eNoDeed) = true)
    (sbNoDeed : PySem.W.subIn K (.ref eNoDeed) (.type "BaseException") = some true)
    (xNoDeed_NoDeed : PySem.W.subIn K (.ref eNoDeed) (.ref eNoDeed) = some true)
    (xNoDeed_NoLines : PySem.W.subIn K (.ref eNoDeed) (.ref eNoLines) = some false)
    (xNoDeed_NoItem : PySem.W.subIn K (.ref eNoDeed) (.ref eNoItem) = some false)
    (xNoDeed_NoNumber : PySem.W.subIn K (.ref eNoDeed) (.ref eNoNumber) = some false)
    (xNoDeed_FullBook : PySem.W.subIn K (.ref eNoDeed) (.ref eFullBook) = some false)
    (xNoDeed_NoOrder : PySem.W.subIn K (.ref eNoDeed) (.ref eNoOrder) = some false)
    (xNoDeed_SameOrder : PySem.W.subIn K (.ref eNoDeed) (.ref eSameOrder) = some false)
    (xNoDeed_NoLine : PySem.W.subIn K (.ref eNoDeed) (.ref eNoLine) = some false)
    (xNoDeed_TooMuch : PySem.W.subIn K (.ref eNoDeed) (.ref eTooMuch) = some false)
    (xNoDeed_NothingDone : PySem.W.subIn K (.ref eNoDeed) (.ref eNothingDone) = some false)
    (gaNoDeed : PySem.W.findIn K (.ref eNoDeed) "__getattribute__" = some (some (.builtin "BaseException.__getattribute__")))
    (ggNoDeed : PySem.W.findIn K (.ref eNoDeed) "__getattr__" = some none)
    (hdNoDeed : PySem.W.hasDictIn K eNoDeed = true)
    (caNoDeed : PySem.W.findIn K (.ref eNoDeed) "__class__" = some (some (.builtin "object.__class__")))
    (mrNoDeed : PySem.W.mroIn K eNoDeed (.type "object") = some true)
    (suNoDeed : PySem.W.subIn K (.ref eNoDeed) (.type "ValueError") = some true)
    (flNoDeed : PySem.W.subIn K (.ref eNoDeed) (.ref cF) = some true)
    (spC : PySem.W.specialIn K (.builtin "object.__class__") "__get__" = some (some (.builtin "getset_descriptor.__get__")))
    (tkC : PySem.W.takesIn K (.builtin "object.__class__") = some true)
    (sbFlow : PySem.W.subIn K (.ref cF) (.type "BaseException") = some true)
    (icFlow : PySem.W.isClsIn K cF = true)
    (tyFlow : PySem.W.typeIn K (.ref cF) = some (.type "type"))
    (vL : PySem.W.nsIn K mainGlobals "_MOST_LETTERS" = some (some (.int 12 tL)))
    (vF : PySem.W.nsIn K mainGlobals "_MOST_FIGURES" = some (some (.int 30 tF)))
    (gDEEDS : PySem.W.nsIn K mainGlobals "DEEDS" = some (some (.ref aD)))
    (lD : K.lookup aD = some ⟨.type "tuple", odD, .seq #[.ref aD_0, .ref aD_1, .ref aD_2, .ref aD_3, .ref aD_4, .ref aD_5, .ref aD_6, .ref aD_7] nD, slD⟩)
    (lD0 : K.lookup aD_0 = some ⟨.type "tuple", od_0, .seq #[.str "order" u0, .int 2 v0] nd_0, sd_0⟩)
    (lD1 : K.lookup aD_1 = some ⟨.type "tuple", od_1, .seq #[.str "deliver" u1, .int 4 v1] nd_1, sd_1⟩)
    (lD2 : K.lookup aD_2 = some ⟨.type "tuple", od_2, .seq #[.str "back" u2, .int 4 v2] nd_2, sd_2⟩)
    (lD3 : K.lookup aD_3 = some ⟨.type "tuple", od_3, .seq #[.str "swap" u3, .int 4 v3] nd_3, sd_3⟩)
    (lD4 : K.lookup aD_4 = some ⟨.type "tuple", od_4, .seq #[.str "credit" u4, .int 4 v4] nd_4, sd_4⟩)
    (lD5 : K.lookup aD_5 = some ⟨.type "tuple", od_5, .seq #[.str "pay" u5, .int 3 v5] nd_5, sd_5⟩)
    (lD6 : K.lookup aD_6 = some ⟨.type "tuple", od_6, .seq #[.str "refund" u6, .int 3 v6] nd_6, sd_6⟩)
    (lD7 : K.lookup aD_7 = some ⟨.type "tuple", od_7, .seq #[.str "move" u7, .int 4 v7] nd_7, sd_7⟩) :
    ∃ fd : FuncData, (∀ (s : Shared) (v : Value), BindsTo s fd ⟨[v], []⟩ [("_law_script", v)]) ∧ ∀ base : Heap, K.In base → base.Ns mainGlobals mg → FnOk l.prog w K mg base CX0 6 fa fd ["_law_script"] (sp_law K) := by
  have e := hfa.symm.trans (PySem.W.mg_of X G a21)
  cases e
  have z1 := PySem.W.mg_none_of X G z1
  have z2 := PySem.W.mg_none_of X G z2
  have z3 := PySem.W.mg_none_of X G z3
  have z4 := PySem.W.mg_none_of X G z4
  have z5 := PySem.W.mg_none_of X G z5
  have z6 := PySem.W.mg_none_of X G z6
  have z7 := PySem.W.mg_none_of X G z7
  have z8 := PySem.W.mg_none_of X G z8
  have z9 := PySem.W.mg_none_of X G z9
  have z10 := PySem.W.mg_none_of X G z10
  have z11 := PySem.W.mg_none_of X G z11
  have z12 := PySem.W.mg_none_of X G z12
  have z13 := PySem.W.mg_none_of X G z13
  have z14 := PySem.W.mg_none_of X G z14
  have z15 := PySem.W.mg_none_of X G z15
  have D_is_item : DefAt K mg "is_item" s_is_item P_is_item := defAt_mk X G a1 l1 c1 k1 fun _ _ _ _ _ _ us hl => match us, hl with | [_], _ => rfl
  have D_read : DefAt K mg "read" s_read P_read := defAt_mk X G a2 l2 c2 k2 fun _ _ _ _ _ _ us hl => match us, hl with | [_], _ => rfl
  have D__line : DefAt K mg "_line" s__line P__line := defAt_mk X G a3 l3 c3 k3 fun _ _ _ _ _ _ us hl => match us, hl with | [_], _ => rfl
  have D__number : DefAt K mg "_number" s__number P__number := defAt_mk X G a4 l4 c4 k4 fun _ _ _ _ _ _ us hl => match us, hl with | [_], _ => rfl
  have D__is_number : DefAt K mg "_is_number" s__is_number P__is_number := defAt_mk X G a5 l5 c5 k5 fun _ _ _ _ _ _ us hl => match us, hl with | [_], _ => rfl
  have D_cell_at : DefAt K mg "_law_cell_at" s_cell_at P_cell_at := defAt_mk X G a6 l6 c6 k6 fun _ _ _ _ _ _ us hl => match us, hl with | [_, _], _ => rfl
  have D_whole : DefAt K mg "_law_whole" s_whole P_whole := defAt_mk X G a7 l7 c7 k7 fun _ _ _ _ _ _ us hl => match us, hl with | [_], _ => rfl
  have D_number_by : DefAt K mg "_law_number_by" s_number_by P_number_by := defAt_mk X G a8 l8 c8 k8 fun _ _ _ _ _ _ us hl => match us, hl with | [_, _], _ => rfl
  have D_item_by : DefAt K mg "_law_item_by" s_item_by P_item_by := defAt_mk X G a9 l9 c9 k9 fun _ _ _ _ _ _ us hl => match us, hl with | [_], _ => rfl
  have D_any_deed : DefAt K mg "_law_any_deed" s_any_deed P_any_deed := defAt_mk X G a10 l10 c10 k10 fun _ _ _ _ _ _ us hl => match us, hl with | [_], _ => rfl
  have D_text_of : DefAt K mg "_law_text_of" s_text_of P_text_of := defAt_mk X G a11 l11 c11 k11 fun _ _ _ _ _ _ us hl => match us, hl with | [_], _ => rfl
  have D_number_in : DefAt K mg "_law_number_in" s_number_in P_number_in := defAt_mk X G a12 l12 c12 k12 fun _ _ _ _ _ _ us hl => match us, hl with | [_], _ => rfl
  have D_line_in : DefAt K mg "_law_line_in" s_line_in P_line_in := defAt_mk X G a13 l13 c13 k13 fun _ _ _ _ _ _ us hl => match us, hl with | [_], _ => rfl
  have D_deed_in : DefAt K mg "_law_deed_in" s_deed_in P_deed_in := defAt_mk X G a14 l14 c14 k14 fun _ _ _ _ _ _ us hl => match us, hl with | [_], _ => rfl
  have D_parts_alike : DefAt K mg "_law_parts_alike" s_parts_alike P_parts_alike := defAt_mk X G a15 l15 c15 k15 fun _ _ _ _ _ _ us hl => match us, hl with | [_, _], _ => rfl
  have D_deed_alike : DefAt K mg "_law_deed_alike" s_deed_alike P_deed_alike := defAt_mk X G a16 l16 c16 k16 fun _ _ _ _ _ _ us hl => match us, hl with | [_, _], _ => rfl
  have D_changed_by : DefAt K mg "_law_changed_by" s_changed_by P_changed_by := defAt_mk X G a17 l17 c17 k17 fun _ _ _ _ _ _ us hl => match us, hl with | [_, _], _ => rfl
  have D_odd_text : DefAt K mg "_law_odd_text" s_odd_text P_odd_text := defAt_mk X G a18 l18 c18 k18 fun _ _ _ _ _ _ us hl => match us, hl with | [_], _ => rfl
  have D_of_one_class : DefAt K mg "_law_of_one_class" s_of_one_class P_of_one_class := defAt_mk X G a19 l19 c19 k19 fun _ _ _ _ _ _ us hl => match us, hl with | [_], _ => rfl
  have D_refused_by_any : DefAt K mg "_law_refused_by_any" s_refused_by_any P_refused_by_any := defAt_mk X G a20 l20 c20 k20 fun _ _ _ _ _ _ us hl => match us, hl with | [_], _ => rfl
  have F_law := fun_mk (st := s_law) l21 c21 k21
  refine ⟨PySem.W.fnOf "law" "law" (defArgs s_law) (defBody s_law) (defScope s_law) .none kV21 dc21 pm21 an21 cd21 ct21, fun s v => .of_eq rfl, fun base Xb Gb => ?_⟩
  have T : Blt mg := ⟨z1, z2, z3, z4, z5, z6, z7, z8, z9, z10, z11, z12, z13⟩
  have T2 : Bl2 mg := ⟨z14, z15⟩
  have CS : ConT mg := ⟨⟨_, PySem.W.mg_of X G vL⟩, ⟨_, PySem.W.mg_of X G vF⟩⟩
  have ER : NoD K mg (clOf10 [eNoDeed, eNoLines, eNoItem, eNoNumber, eFullBook, eNoOrder, eSameOrder, eNoLine, eTooMuch, eNothingDone]) := ⟨PySem.W.mg_of X G gNoDeed, qNoDeed, kpNoDeed, sbNoDeed, tyNoDeed⟩
  have EX : NoX K mg (clOf10 [eNoDeed, eNoLines, eNoItem, eNoNumber, eFullBook, eNoOrder, eSameOrder, eNoLine, eTooMuch, eNothingDone]) := ⟨fun n hn => by rw [List.mem_singleton.mp hn]; exact PySem.W.mg_of X G gNoDeed, exm_mk sbNoDeed icNoDeed tyNoDeed xNoDeed_NoDeed⟩
  have E10 : OneE K mg (clOf10 [eNoDeed, eNoLines, eNoItem, eNoNumber, eFullBook, eNoOrder, eSameOrder, eNoLine, eTooMuch, eNothingDone]) ["NoDeed"] := by
    refine ⟨fun n hn => ?_, fun n hn => ?_, fun n hn => ?_, fun n hn m hm => ?_, fun n hn => ?_⟩
    · simp only [ten, List.mem_cons, List.not_mem_nil, or_false] at hn
      rcases hn with rfl | rfl | rfl | rfl | rfl | rfl | rfl | rfl | rfl | rfl
      · exact PySem.W.mg_of X G gNoDeed
      · exact PySem.W.mg_of X G gNoLines
      · exact PySem.W.mg_of X G gNoItem
      · exact PySem.W.mg_of X G gNoNumber
      · exact PySem.W.mg_of X G gFullBook
      · exact PySem.W.mg_of X G gNoOrder
      · exact PySem.W.mg_of X G gSameOrder
      · exact PySem.W.mg_of X G gNoLine
      · exact PySem.W.mg_of X G gTooMuch
      · exact PySem.W.mg_of X G gNothingDone
    · simp only [List.mem_cons, List.not_mem_nil, or_false] at hn
      rcases hn with rfl
      · decide
    · simp only [List.mem_cons, List.not_mem_nil, or_false] at hn
      rcases hn with rfl
      · exact ⟨gaNoDeed, ggNoDeed, sbNoDeed, hdNoDeed, caNoDeed, spC, tkC, mrNoDeed⟩
    · simp only [ten, List.mem_cons, List.not_mem_nil, or_false] at hn hm
      rcases hn with rfl
      · rcases hm with rfl | rfl | rfl | rfl | rfl | rfl | rfl | rfl | rfl | rfl
        · exact kit_ref xNoDeed_NoDeed xNoDeed_NoDeed icNoDeed tyNoDeed
        · exact kit_ref xNoDeed_NoLines xNoDeed_NoDeed icNoLines tyNoLines
        · exact kit_ref xNoDeed_NoItem xNoDeed_NoDeed icNoItem tyNoItem
        · exact kit_ref xNoDeed_NoNumber xNoDeed_NoDeed icNoNumber tyNoNumber
        · exact kit_ref xNoDeed_FullBook xNoDeed_NoDeed icFullBook tyFullBook
        · exact kit_ref xNoDeed_NoOrder xNoDeed_NoDeed icNoOrder tyNoOrder
        · exact kit_ref xNoDeed_SameOrder xNoDeed_NoDeed icSameOrder tySameOrder
        · exact kit_ref xNoDeed_NoLine xNoDeed_NoDeed icNoLine tyNoLine
        · exact kit_ref xNoDeed_TooMuch xNoDeed_NoDeed icTooMuch tyTooMuch
        · exact kit_ref xNoDeed_NothingDone xNoDeed_NoDeed icNothingDone tyNothingDone
    · simp only [List.mem_cons, List.not_mem_nil, or_false] at hn
      rcases hn with rfl
      · exact kit_val suNoDeed
  have EF : FlowE K mg (clOf10 [eNoDeed, eNoLines, eNoItem, eNoNumber, eFullBook, eNoOrder, eSameOrder, eNoLine, eTooMuch, eNothingDone]) cF ["NoDeed"] := by
    refine ⟨fun n hn => by rw [List.mem_singleton.mp hn]; exact PySem.W.mg_of X G gFlowError, fun n hn => ?_⟩
    simp only [List.mem_cons, List.not_mem_nil, or_false] at hn
    rcases hn with rfl
    · exact exm_mk sbFlow icFlow tyFlow flNoDeed
  have TP : DTup K mg aD := ⟨PySem.W.mg_of X G gDEEDS, fun H => deeds_dp lD lD0 lD1 lD2 lD3 lD4 lD5 lD6 lD7⟩
  have c_is_item := c_is_item (P := l.prog) (w := w) (base := base) T T2 CS D_is_item
  have c__is_number := c__is_number (P := l.prog) (w := w) (base := base) T T2 CS D__is_number
  have c__number := c__number T ER c__is_number D__number
  have c__line := c__line T ER c_is_item c__number D__line
  have c_read := c_read T ER TP c__line c__number D_read
  have c_cell_at := c_cell_at (P := l.prog) (w := w) (base := base) T D_cell_at
  have c_whole := c_whole (P := l.prog) (w := w) (base := base) T D_whole
  have c_number_by := c_number_by (P := l.prog) (w := w) (base := base) T D_number_by
  have c_item_by := c_item_by (P := l.prog) (w := w) (base := base) T D_item_by
  have c_any_deed := c_any_deed T c_cell_at c_number_by c_item_by D_any_deed
  have c_text_of := c_text_of (P := l.prog) (w := w) (base := base) T D_text_of
  have c_number_in := c_number_in (P := l.prog) (w := w) (base := base) T D_number_in
  have c_line_in := c_line_in T c_number_in D_line_in
  have c_deed_in := c_deed_in T c_number_in c_line_in D_deed_in
  have c_parts_alike := c_parts_alike T c_whole D_parts_alike
  have c_deed_alike := c_deed_alike T c_parts_alike D_deed_alike
  have c_changed_by := c_changed_by (P := l.prog) (w := w) (base := base) T D_changed_by
  have c_odd_text := c_odd_text (P := l.prog) (w := w) (base := base) T D_odd_text
  have c_of_one_class := c_of_one_class (P := l.prog) (w := w) (base := base) T E10 D_of_one_class
  have c_refused_by_any := c_refused_by_any EF c_read c_of_one_class D_refused_by_any
  exact ok_law T EX c_cell_at c_any_deed c_text_of c_changed_by c_odd_text c_deed_in c_read c_refused_by_any c_deed_alike F_law
theorem walk {l : PySem.W.OpenLaw} {q : Program} {loose : List Str} {XP : (Str → Option Value) → Heap → Prop} {YP : World → Heap → Prop} {d : DefRec} {K : Params → PySem.W.Frag} (hn : l.most = some 63) (hdf : d.params.defaults = [])
    (hY : ∀ (w : World) (h : Heap), YP w h → (K w.params).In h)
    (F : ∀ (w : World) (mg : Str → Option Value) (fa : Addr) (h : Heap), (K w.params).In h → h.Ns mainGlobals mg → mg d.name = some (.ref fa) →
      ∃ fd : FuncData, (∀ (s : Shared) (u : Value), BindsTo s fd ⟨[u], []⟩ [("_law_script", u)]) ∧ ∀ base : Heap, (K w.params).In base → base.Ns mainGlobals mg → FnOk l.prog w (K w.params) mg base CX0 6 fa fd ["_law_script"] (sp_law (K w.params))) :
    PySem.W.WalkO q loose XP YP l.row.toRowW d [] (fun f vs => PySem.call f vs) :=
  L2.walk_of (n := 63) (k := 6) (x := "_law_script") (CX := fun _ => CX0) (sp := fun w => sp_law (K w.params)) hn (by decide) hdf ⟨rfl, by decide, by decide⟩ hY F (fun _ _ a ns hl _ hS => ⟨a, ns, rfl, hS, hl, fun _ => rfl⟩) fun _ _ _ _ _ z => z
end Of
open PySem PySem.W PyProof.Rows
set_option maxRecDepth 100000 in
set_option maxHeartbeats 0 in
theorem PySem.Challenge.cw_orderflow_k08_texts_read_holds : PySem.Challenge.rw_orderflow_k08_texts_read.Holds := by
  w_on; o_law; k_head; (case hw => w_witness2)
  k_fill
  refine Of.walk (l := PySem.Challenge.rw_orderflow_k08_texts_read) rfl rfl (fun w h Y => PySem.W.kIn_of Y) ?F
  case F =>
    intro w mg fa h KX G hmg
    refine' Of.all_mk KX G hmg ?a1 ?l1 ?c1 ?k1 ?a2 ?l2 ?c2 ?k2 ?a3 ?l3 ?c3 ?k3 ?a4 ?l4 ?c4 ?k4 ?a5 ?l5 ?c5 ?k5 ?a6 ?l6 ?c6 ?k6 ?a7 ?l7 ?c7 ?k7 ?a8 ?l8 ?c8 ?k8 ?a9 ?l9 ?c9 ?k9 ?a10 ?l10 ?c10 ?k10 ?a11 ?l11 ?c11 ?k11 ?a12 ?l12 ?c12 ?k12 ?a13 ?l13 ?c13 ?k13 ?a14 ?l14 ?c14 ?k14 ?a15 ?l15 ?c15 ?k15 ?a16 ?l16 ?c16 ?k16 ?a17 ?l17 ?c17 ?k17 ?a18 ?l18 ?c18 ?k18 ?a19 ?l19 ?c19 ?k19 ?a20 ?l20 ?c20 ?k20 ?a21 ?l21 ?c21 ?k21 ?z1 ?z2 ?z3 ?z4 ?z5 ?z6 ?z7 ?z8 ?z9 ?z10 ?z11 ?z12 ?z13 ?z14 ?z15 ?gFlowError ?gNoDeed ?tyNoDeed ?icNoDeed ?gNoLines ?tyNoLines ?icNoLines ?gNoItem ?tyNoItem ?icNoItem ?gNoNumber ?tyNoNumber ?icNoNumber ?gFullBook ?tyFullBook ?icFullBook ?gNoOrder ?tyNoOrder ?icNoOrder ?gSameOrder ?tySameOrder ?icSameOrder ?gNoLine ?tyNoLine ?icNoLine ?gTooMuch ?tyTooMuch ?icTooMuch ?gNothingDone ?tyNothingDone ?icNothingDone ?qNoDeed ?kpNoDeed ?sbNoDeed ?xNoDeed_NoDeed ?xNoDeed_NoLines ?xNoDeed_NoItem ?xNoDeed_NoNumber ?xNoDeed_FullBook ?xNoDeed_NoOrder ?xNoDeed_SameOrder ?xNoDeed_NoLine ?xNoDeed_TooMuch ?xNoDeed_NothingDone ?gaNoDeed ?ggNoDeed ?hdNoDeed ?caNoDeed ?mrNoDeed ?suNoDeed ?flNoDeed ?spC ?tkC ?sbFlow ?icFlow ?tyFlow ?vL ?vF ?gDEEDS ?lD ?lD0 ?lD1 ?lD2 ?lD3 ?lD4 ?lD5 ?lD6 ?lD7
    (case a1 => k_is)
    (case l1 => k_is)
    (case c1 => k_is)
    (case k1 => k_is)
    (case a2 => k_is)
    (case l2 => k_is)
    (case c2 => k_is)
    (case k2 => k_is)
    (case a3 => k_is)
    (case l3 => k_is)
    (case c3 => k_is)
    (case k3 => k_is)
    (case a4 => k_is)
    (case l4 => k_is)
    (case c4 => k_is)
    (case k4 => k_is)
    (case a5 => k_is)
    (case l5 => k_is)
    (case c5 => k_is)
    (case k5 => k_is)
    (case a6 => k_is)
    (case l6 => k_is)
    (case c6 => k_is)
    (case k6 => k_is)
    (case a7 => k_is)
    (case l7 => k_is)
    (case c7 => k_is)
    (case k7 => k_is)
    (case a8 => k_is)
    (case l8 => k_is)
    (case c8 => k_is)
    (case k8 => k_is)
    (case a9 => k_is)
    (case l9 => k_is)
    (case c9 => k_is)
    (case k9 => k_is)
    (case a10 => k_is)
    (case l10 => k_is)
    (case c10 => k_is)
    (case k10 => k_is)
    (case a11 => k_is)
    (case l11 => k_is)
    (case c11 => k_is)
    (case k11 => k_is)
    (case a12 => k_is)
    (case l12 => k_is)
    (case c12 => k_is)
    (case k12 => k_is)
    (case a13 => k_is)
    (case l13 => k_is)
    (case c13 => k_is)
    (case k13 => k_is)
    (case a14 => k_is)
    (case l14 => k_is)
    (case c14 => k_is)
    (case k14 => k_is)
    (case a15 => k_is)
    (case l15 => k_is)
    (case c15 => k_is)
    (case k15 => k_is)
    (case a16 => k_is)
    (case l16 => k_is)
    (case c16 => k_is)
    (case k16 => k_is)
    (case a17 => k_is)
    (case l17 => k_is)
    (case c17 => k_is)
    (case k17 => k_is)
    (case a18 => k_is)
    (case l18 => k_is)
    (case c18 => k_is)
    (case k18 => k_is)
    (case a19 => k_is)
    (case l19 => k_is)
    (case c19 => k_is)
    (case k19 => k_is)
    (case a20 => k_is)
    (case l20 => k_is)
    (case c20 => k_is)
    (case k20 => k_is)
    (case a21 => k_is)
    (case l21 => k_is)
    (case c21 => k_is)
    (case k21 => k_is)
    (case z1 => k_is)
    (case z2 => k_is)
    (case z3 => k_is)
    (case z4 => k_is)
    (case z5 => k_is)
    (case z6 => k_is)
    (case z7 => k_is)
    (case z8 => k_is)
    (case z9 => k_is)
    (case z10 => k_is)
    (case z11 => k_is)
    (case z12 => k_is)
    (case z13 => k_is)
    (case z14 => k_is)
    (case z15 => k_is)
    (case gFlowError => k_is)
    (case gNoDeed => k_is)
    (case tyNoDeed => k_is)
    (case icNoDeed => k_is)
    (case gNoLines => k_is)
    (case tyNoLines => k_is)
    (case icNoLines => k_is)
    (case gNoItem => k_is)
    (case tyNoItem => k_is)
    (case icNoItem => k_is)
    (case gNoNumber => k_is)
    (case tyNoNumber => k_is)
    (case icNoNumber => k_is)
    (case gFullBook => k_is)
    (case tyFullBook => k_is)
    (case icFullBook => k_is)
    (case gNoOrder => k_is)
    (case tyNoOrder => k_is)
    (case icNoOrder => k_is)
    (case gSameOrder => k_is)
    (case tySameOrder => k_is)
    (case icSameOrder => k_is)
    (case gNoLine => k_is)
    (case tyNoLine => k_is)
    (case icNoLine => k_is)
    (case gTooMuch => k_is)
    (case tyTooMuch => k_is)
    (case icTooMuch => k_is)
    (case gNothingDone => k_is)
    (case tyNothingDone => k_is)
    (case icNothingDone => k_is)
    (case qNoDeed => k_exc)
    (case kpNoDeed => k_is)
    (case sbNoDeed => k_is)
    (case xNoDeed_NoDeed => k_is)
    (case xNoDeed_NoLines => k_is)
    (case xNoDeed_NoItem => k_is)
    (case xNoDeed_NoNumber => k_is)
    (case xNoDeed_FullBook => k_is)
    (case xNoDeed_NoOrder => k_is)
    (case xNoDeed_SameOrder => k_is)
    (case xNoDeed_NoLine => k_is)
    (case xNoDeed_TooMuch => k_is)
    (case xNoDeed_NothingDone => k_is)
    (case gaNoDeed => k_is)
    (case ggNoDeed => k_is)
    (case hdNoDeed => k_is)
    (case caNoDeed => k_is)
    (case mrNoDeed => k_is)
    (case suNoDeed => k_is)
    (case flNoDeed => k_is)
    (case spC => k_is)
    (case tkC => k_is)
    (case sbFlow => k_is)
    (case icFlow => k_is)
    (case tyFlow => k_is)
    (case vL => k_is)
    (case vF => k_is)
    (case gDEEDS => k_is)
    (case lD => k_is)
    (case lD0 => k_is)
    (case lD1 => k_is)
    (case lD2 => k_is)
    (case lD3 => k_is)
    (case lD4 => k_is)
    (case lD5 => k_is)
    (case lD6 => k_is)
    (case lD7 => k_is)


