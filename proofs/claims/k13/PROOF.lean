import PyProof.Rows.All
import Wide.All
import OpenK.AllK
import Wide.FinOn
import KE.KBits
import KE.BitLaws
import HandS.ForMost
import HandS.ForExc
import HandS.IsInst
import HandS.Wide
import HandS.WideBits
import HandS.WideMore
import HandS.Flow
import HandS.ExcInit
import HandS.Codes
import HandS.ExcField
import HandS.ExcIs
import KE.KExcIs
import KE.KIsAll
import HandS.More
import HandS.Dict
import HandS.CallLocal
import HandS.Zip
import HandS.Text
import HandS.Conv
import HandS.Iter
import PySem.Challenge.RW_wasmhost_k13_names
set_option Elab.async false
set_option linter.all false
set_option maxRecDepth 100000
set_option maxHeartbeats 4000000
namespace V
open PySem PySem.Spec PyProof.Rows L2
/-! ### a def that may be called by its name -/
structure Cal (P : Program) (w : World) (K : PySem.W.Frag) (mg : Str → Option Value) (base : Heap) (C : CXT) (k : Nat) (x : Str) (sp : Sp) : Prop where
  ex : ∃ (f : Addr) (fd : FuncData) (ps : List Str), FnOk P w K mg base C k f fd ps sp ∧ mg x = some (.ref f) ∧ PySem.W.keepIn K (.ref f) = true ∧ Binds K fd ps []
section
variable {P : Program} {w : World} {K : PySem.W.Frag} {mg : Str → Option Value} {base : Heap} {k : Nat} {x : Str} {sp sp' : Sp} {C : CXT}
theorem Cal.mono (c : Cal P w K mg base C k x sp) {j : Nat} (h : k ≤ j) : Cal P w K mg base C j x sp := by
  obtain ⟨f, fd, ps, F, m, kp, b⟩ := c.ex
  exact ⟨f, fd, ps, F.mono h, m, kp, b⟩
theorem Cal.imp (c : Cal P w K mg base C k x sp) (h : ∀ vs H Q E, sp' vs H Q E → sp vs H Q E) : Cal P w K mg base C k x sp' := by
  obtain ⟨f, fd, ps, F, m, kp, b⟩ := c.ex
  exact ⟨f, fd, ps, F.imp h, m, kp, b⟩
/-- a def as the top leaves it -/
structure Def (K : PySem.W.Frag) (mg : Str → Option Value) (x : Str) (st : Stmt) (ps : List Str) : Prop where
  ex : ∃ (f : Addr) (fd : FuncData), L2.Fun K x x st f fd ∧ mg x = some (.ref f) ∧ Binds K fd ps []
theorem Def.ok {st : Stmt} {N ps : List Str} (D : Def K mg x st ps) (S : FnScope N ps (defScope st)) (len : ∀ vs H Q E, sp vs H Q E → vs.length = ps.length)
    (hbody : ∀ (f : Addr) (cdv : Value) (A : Around) (outer : List Env) (s : Shared) (H : Hp) (vs : List V) (Q : VK) (E : XK), Room k (A.deeper (envOfC x (defScope st) s.heap.objs.size f cdv)) → sp vs H Q E →
      ∃ t, PSs (cxOf CX0 P w K mg base N x (defScope st) f cdv A outer s H E).nox (defBody st) t ∧ t { nx := fun _ H' => Q .non H', rt := Q } (start N vs) H) : Cal P w K mg base CX0 (k + 1) x sp := by
  obtain ⟨f, fd, F, m, b⟩ := D.ex
  exact ⟨f, fd, ps, F.ok S len (hbody f), m, F.kp, b⟩
theorem Def.okX {st : Stmt} {N ps : List Str} (D : Def K mg x st ps) (S : FnScope N ps (defScope st)) (len : ∀ vs H Q E, sp vs H Q E → vs.length = ps.length)
    (hbody : ∀ (f : Addr) (cdv : Value) (A : Around) (outer : List Env) (s : Shared) (H : Hp) (vs : List V) (Q : VK) (E : XK), Room k (A.deeper (envOfC x (defScope st) s.heap.objs.size f cdv)) → sp vs H Q E →
      ∃ t, PSs (cxOf (L2.CX P w) P w K mg base N x (defScope st) f cdv A outer s H E) (defBody st) t ∧ t { nx := fun _ H' => Q .non H', rt := Q } (start N vs) H) : Cal P w K mg base (L2.CX P w) (k + 1) x sp := by
  obtain ⟨f, fd, F, m, b⟩ := D.ex
  exact ⟨f, fd, ps, F.okX S len (hbody f), m, F.kp, b⟩
end
section
variable {X : Cx} {k j : Nat} {x : Str} {sp : Sp} {p pos : Pos} {e : Expr} {es : List Expr} {t : TA} {C : CXT} {E : XK}
theorem pe_cE (c : Cal X.prog X.w X.K X.mg X.base C k x sp) (hr : Room j X.A) (hk : k ≤ j) (hx : Passes C X E) (hg : Gl X x) (ha : PA X (e :: es) t)
    (hdb : (x == ("__debug__" : Str)) = false := by decide) (he : starEach (e :: es) X.env = (false, eval e X.env) :: starEach es X.env := by rfl) (hpl : (backTo pos (starEach es X.env)).any (·.1) = false := by rfl) :
    PE X (.Call (.Name x p) (e :: es) [] pos) (tCall sp [] E t) := by
  obtain ⟨f, fd, ps, F, hm, kp, b⟩ := c.ex
  exact pe_call F (hr.mono hk) hg hm kp b .nil hx ha hdb he hpl
theorem pe_cE0 (c : Cal X.prog X.w X.K X.mg X.base C k x sp) (hr : Room j X.A) (hk : k ≤ j) (hx : Passes C X E) (hg : Gl X x)
    (hdb : (x == ("__debug__" : Str)) = false := by decide) : PE X (.Call (.Name x p) [] [] pos) (tCall sp [] E tNil) := by
  obtain ⟨f, fd, ps, F, hm, kp, b⟩ := c.ex
  exact pe_call0 F (hr.mono hk) hg hm kp b .nil hx hdb
/-- a def that lets nothing out -/
theorem pe_c (c : Cal X.prog X.w X.K X.mg X.base CX0 k x sp) (hr : Room j X.A) (hk : k ≤ j) (hg : Gl X x) (ha : PA X (e :: es) t)
    (hdb : (x == ("__debug__" : Str)) = false := by decide) (he : starEach (e :: es) X.env = (false, eval e X.env) :: starEach es X.env := by rfl) (hpl : (backTo pos (starEach es X.env)).any (·.1) = false := by rfl) :
    PE X (.Call (.Name x p) (e :: es) [] pos) (tCall sp [] E0 t) := pe_cE c hr hk pass0 hg ha hdb he hpl
theorem pe_c0 (c : Cal X.prog X.w X.K X.mg X.base CX0 k x sp) (hr : Room j X.A) (hk : k ≤ j) (hg : Gl X x)
    (hdb : (x == ("__debug__" : Str)) = false := by decide) : PE X (.Call (.Name x p) [] [] pos) (tCall sp [] E0 tNil) := pe_cE0 c hr hk pass0 hg hdb
end
section
variable {X : Cx} {k j : Nat} {x : Str} {sp : Sp} {p pos : Pos} {e : Expr} {es : List Expr} {t : TA} {C : CXT} {E : L2.St → XK}
/-- a call within a try -/
theorem pe_cS (c : Cal X.prog X.w X.K X.mg X.base C k x sp) (hr : Room j X.A) (hk : k ≤ j) (hg : Gl X x) (hx : ∀ σ, PassesAt C X σ (E σ)) (ha : PA X (e :: es) t)
    (hdb : (x == ("__debug__" : Str)) = false := by decide) (he : starEach (e :: es) X.env = (false, eval e X.env) :: starEach es X.env := by rfl) (hpl : (backTo pos (starEach es X.env)).any (·.1) = false := by rfl) : PE X (.Call (.Name x p) (e :: es) [] pos) (tCallS sp E t) := by
  obtain ⟨f, fd, ps, F, hm, kp, b⟩ := c.ex
  exact pe_callS F (hr.mono hk) hg hm kp b hx ha hdb he hpl
end
theorem hu64 {A : Around} {k : Nat} (hr : Room k A) : A.units + 64 < cLine := by have := hr.un; omega
/-! ### numbers -/
theorem small64 {n : Nat} (h : n ≤ 1000000) : n ≤ sizeLine := Nat.le_trans h (by decide)
theorem small64' {n : Nat} (h : n ≤ 1000000) : n < sizeLine := Nat.lt_of_le_of_lt h (by decide)
theorem shl1 {j : Int} (h : 0 ≤ j) (h2 : j ≤ 100000) : CShl 1 j := by
  obtain ⟨n, rfl⟩ := Int.eq_ofNat_of_zero_le h
  exact shl_ok (n := 1) (by decide) (by omega)
theorem shlN {i j : Int} (hi : i.natAbs < 2 ^ 1000) (h : 0 ≤ j) (h2 : j ≤ 100000) : CShl i j := by
  obtain ⟨n, rfl⟩ := Int.eq_ofNat_of_zero_le h
  exact shl_ok (n := 1000) hi (by omega)
theorem pow_pos2 (k : Nat) : (0 : Int) < 2 ^ k := PySem.W.kbt_pos k
/-! ### heaps -/
theorem Same.new {H : Hp} {p : Addr} {o : HO} (h : H p = none) : Same H (upd H p o) := fun b x e => by
  rw [upd_ne (ne_of_none e h)]; exact e
theorem SqL.new {K : PySem.W.Frag} {H : Hp} {p : Addr} {xs : List V} : SqL K (upd H p (.lst xs)) p xs := .inl (.inl upd_same)
theorem SqT.new {K : PySem.W.Frag} {H : Hp} {p : Addr} {xs : List V} : SqT K (upd H p (.tup xs)) p xs := .inl (.inl upd_same)

/-! ### operators in the words that the readings like -/
section
variable {X : Cx}
/-- i << j, i of a usual size -/
theorem op_shlS : OpR X (binaryOp .LShift) (fun x y H Q => ∃ i j : Int, x = .int i ∧ y = .int j ∧ (i.natAbs < 2 ^ 1000 ∧ 0 ≤ j ∧ j ≤ 100000) ∧ Q (.int (i * 2 ^ j.toNat)) H) := by
  intro pins s σ H x y v u Q I rx ry h
  obtain ⟨i, j, rfl, rfl, ⟨c0, c1, c2⟩, q⟩ := h
  exact op_shlW pins s σ H _ _ v u Q I rx ry ⟨i, j, rfl, rfl, shlN c0 c1 c2, q⟩
theorem nat_small {i : Int} (h : i.natAbs ≤ 18446744073709551616) : i.natAbs < 2 ^ 1000 := Nat.lt_of_le_of_lt h (by decide +kernel)
/-- 1 << j -/
theorem op_shl1 : OpR X (binaryOp .LShift) (fun x y H Q => ∃ j : Int, x = .int 1 ∧ y = .int j ∧ (0 ≤ j ∧ j ≤ 100000) ∧ Q (.int (2 ^ j.toNat)) H) := by
  intro pins s σ H x y v u Q I rx ry h
  obtain ⟨j, rfl, rfl, ⟨c1, c2⟩, q⟩ := h
  refine op_shlW pins s σ H _ _ v u Q I rx ry ⟨1, j, rfl, rfl, shl1 c1 c2, ?_⟩
  show Q (.int (1 * 2 ^ j.toNat)) H
  rw [Int.one_mul]; exact q
end
/-- isinstance(x, T) of a value of a type of its own -/
theorem isi_int {K : PySem.W.Frag} {H : Hp} {i : Int} {Q : VK} (q : Q (.bl true) H) : rIsi K [.int i, .ty "int"] H Q := ⟨.int i, .ty "int", _, _, true, rfl, .ty _, .base (.int _), kit_ty (by decide +kernel), q⟩
theorem isi_int_bool {K : PySem.W.Frag} {H : Hp} {i : Int} {Q : VK} (q : Q (.bl false) H) : rIsi K [.int i, .ty "bool"] H Q := ⟨.int i, .ty "bool", _, _, false, rfl, .ty _, .base (.int _), kit_ty (by decide +kernel), q⟩
theorem isi_list {K : PySem.W.Frag} {H : Hp} {a : Addr} {xs : List V} {Q : VK} (h : H a = some (.lst xs)) (q : Q (.bl true) H) : rIsi K [.ref a, .ty "list"] H Q := ⟨.ref a, .ty "list", _, _, true, rfl, .ty _, .base (.lst h), kit_ty (by decide +kernel), q⟩
theorem isi_tup {K : PySem.W.Frag} {H : Hp} {a : Addr} {xs : List V} {Q : VK} (h : H a = some (.tup xs)) (q : Q (.bl true) H) : rIsi K [.ref a, .ty "tuple"] H Q := ⟨.ref a, .ty "tuple", _, _, true, rfl, .ty _, .base (.tup h), kit_ty (by decide +kernel), q⟩
theorem isi_str {K : PySem.W.Frag} {H : Hp} {z : Str} {Q : VK} (q : Q (.bl true) H) : rIsi K [.str z, .ty "str"] H Q := ⟨.str z, .ty "str", _, _, true, rfl, .ty _, .base (.str _), kit_ty (by decide +kernel), q⟩
/-! ### lists of ints -/
theorem at_ints {ns : List Int} {k : Nat} (h : k < ns.length) : atI (ns.map V.int) (k : Int) = some (.int (ns.getD k 0)) := atI_nat (by
  rw [List.getElem?_map, List.getElem?_eq_getElem h, List.getD_eq_getElem?_getD, List.getElem?_eq_getElem h]; rfl)
theorem cut_to (xs : List V) (k : Nat) : cutV xs none (some (k : Int)) = xs.take k := by
  unfold cutV
  rw [HT.sIx_nat, HT.sIx_none, List.drop_zero, Nat.sub_zero]
  rcases Nat.le_total k xs.length with h | h
  · rw [Nat.min_eq_left h]
  · rw [Nat.min_eq_right h, List.take_length, List.take_of_length_le h]
theorem cut_from (xs : List V) (k : Nat) : cutV xs (some (k : Int)) none = xs.drop k := by
  unfold cutV
  rw [HT.sIx_nat, HT.sIx_none]
  rcases Nat.le_total k xs.length with h | h
  · rw [Nat.min_eq_left h]; exact List.take_of_length_le (by rw [List.length_drop]; exact Nat.le_refl _)
  · rw [Nat.min_eq_right h, Nat.sub_self, List.take_zero, List.drop_eq_nil_of_le h]
/-! ### a reading, gone through as far as it goes by sight -/
local macro_rules | `(tactic| walk_at "side") => `(tactic| first
  | (show _ = _; rfl)
  | (show (0 : Int) < _; first | omega | exact pow_pos2 _)
  | (show (0 : Int) ≤ _; omega)
  | (show (0 : Int) ≤ _ ∧ _; constructor <;> omega)
  | (show (0 : Int) < _ ∧ _; constructor <;> omega)
  | (show (_ < _ ∧ _ < _) ∨ (_ < _ ∧ _ < _); first | exact .inl ⟨by omega, by omega⟩ | exact .inr ⟨by omega, by omega⟩))
local macro_rules | `(tactic| walk_at "loop") => `(tactic| (show ∃ W : (Nat → Nat → L2.St → Hp → Prop), _))
local macro_rules | `(tactic| walk_at "go1") => `(tactic| (fail_if_success walk_at "loop"); first
  | refine And.intro (show (_ : Int) ≤ _ by omega) ?_
  | refine ⟨_, rfl, ?_⟩
  | refine ⟨_, _, rfl, rfl, ?_⟩
  | refine ⟨_, rfl, rfl, ?_⟩
  | refine .inl ⟨_, rfl, ?_⟩
  | refine ⟨_, .ty "int", _, _, true, rfl, .ty _, .base (.int _), kit_ty (by decide +kernel), ?_⟩
  | refine ⟨_, .ty "bool", _, _, false, rfl, .ty _, .base (.int _), kit_ty (by decide +kernel), ?_⟩
  | refine ⟨_, .ty "bool", _, _, false, rfl, .ty _, .base (.str _), kit_ty (by decide +kernel), ?_⟩
  | refine ⟨_, .ty "str", _, _, true, rfl, .ty _, .base (.str _), kit_ty (by decide +kernel), ?_⟩
  | refine ⟨_, .ty "list", _, _, true, rfl, .ty _, .base (.lst (by assumption)), kit_ty (by decide +kernel), ?_⟩
  | refine ⟨_, .ty "tuple", _, _, true, rfl, .ty _, .base (.tup (by assumption)), kit_ty (by decide +kernel), ?_⟩
  | refine ⟨_, _, rfl, .inl (by assumption), ?_⟩
  | refine ⟨_, _, rfl, .inr (by assumption), ?_⟩
  | refine ⟨_, _, rfl, ?_⟩
  | refine ⟨_, _, _, _, rfl, rfl, by assumption, at_ints (by omega), ?_⟩
  | refine ⟨_, _, _, _, rfl, rfl, by assumption, rfl, ?_⟩
  | refine iteF ?_
  | refine iteT ?_
  | refine iteNS rfl ?_
  | (refine And.intro ?h1 ?h2; case h1 => first
    | walk_at "side"
    | assumption
    | (show (_ : Nat) ≤ _; omega)
    | (show (_ : Int) ≤ _; omega)
    | (show (_ : Int) < _; omega)
    | (show 0 ≤ sizeLine; decide)
    | (show 1 ≤ sizeLine; decide)
    | (show 2 ≤ sizeLine; decide)
    | (show 3 ≤ sizeLine; decide)
    | (show 4 ≤ sizeLine; decide)
    | (show (_ : Nat) ≤ _; decide)))
local macro_rules | `(tactic| walk_at "go") => `(tactic| repeat walk_at "go1")
/-! ### tests that read alone, loops -/
theorem tor_b {t u : TT} {σ : L2.St} {H : Hp} {Q : Bool → Hp → Prop} (b1 b2 : Bool) (h1 : ∀ Q, Q b1 H → t σ H Q) (h2 : ∀ Q, Q b2 H → u σ H Q) (q : Q (b1 || b2) H) : tOr t u σ H Q := by
  refine h1 _ ?_
  cases b1 with
  | true => rw [if_pos rfl]; exact q
  | false => rw [if_neg (by decide)]; exact h2 _ q
theorem tand_b {t u : TT} {σ : L2.St} {H : Hp} {Q : Bool → Hp → Prop} (b1 b2 : Bool) (h1 : ∀ Q, Q b1 H → t σ H Q) (h2 : ∀ Q, Q b2 H → u σ H Q) (q : Q (b1 && b2) H) : tAnd t u σ H Q := by
  refine h1 _ ?_
  cases b1 with
  | true => rw [if_pos rfl]; exact h2 _ q
  | false => rw [if_neg (by decide)]; exact q
theorem while_ev {c : TT} {tb : TS} {D : Ends} {σ : L2.St} {H : Hp} (Pv : L2.St → Hp → Prop) (μ : L2.St → Hp → Nat) (h0 : Pv σ H)
    (hs : ∀ σ H, Pv σ H → ∃ b : Bool, (∀ Q, Q b H → c σ H Q) ∧ (b = true → tb { D with nx := fun σ' H' => Pv σ' H' ∧ μ σ' H' < μ σ H, ct := fun σ' H' => Pv σ' H' ∧ μ σ' H' < μ σ H, bk := D.nx } σ H) ∧ (b = false → D.nx σ H)) : tWhile c tb D σ H := by
  refine ⟨fun m σ H => m = μ σ H ∧ Pv σ H, ⟨_, rfl, h0⟩, ?_⟩
  rintro m σ H ⟨rfl, p⟩
  obtain ⟨b, h1, h2, h3⟩ := hs σ H p
  refine h1 _ ?_
  cases b with
  | true => exact ⟨_, fun σ' H' ⟨p', l⟩ => ⟨_, l, rfl, p'⟩, h2 rfl⟩
  | false => exact h3 rfl
/-- the loops' bookkeeping, with what follows and what returns told apart -/
theorem for_listD {K : PySem.W.Frag} {a : Addr} {xs : List V} {g : TG} {tb : TS} {nx : L2.St → Hp → Prop} {rt : VK} {σ : L2.St} {H : Hp} (Pv : Nat → L2.St → Hp → Prop) (h0 : Pv 0 σ H) (hl : ∀ i σ H, i ≤ xs.length → Pv i σ H → SqL K H a xs)
    (hs : ∀ i x σ H, xs[i]? = some x → Pv i σ H → g x σ H fun σ2 H2 => tb { nx := Pv (i + 1), rt := rt, bk := nx, ct := Pv (i + 1) } σ2 H2) (hd : ∀ σ H, Pv xs.length σ H → nx σ H) :
    ∃ W : Nat → Nat → L2.St → Hp → Prop, (∃ m, W 0 m σ H) ∧ ∀ i m σ H, W i m σ H → ((Itl K a).stop i H ∧ nx σ H) ∨ ((Itl K a).go i H ∧ ∃ N : L2.St → Hp → Prop, (∀ σ' H', N σ' H' → ∃ m', m' < m ∧ W (i + 1) m' σ' H') ∧
      ∀ x H', (Itl K a).yld i H x H' → g x σ H' fun σ2 H2 => tb { nx := N, rt := rt, bk := nx, ct := N } σ2 H2) := for_list (D := { nx := nx, rt := rt }) Pv h0 hl hs hd
theorem for_rangeD {lo : Int} {n : Nat} {g : TG} {tb : TS} {nx : L2.St → Hp → Prop} {rt : VK} {σ : L2.St} {H : Hp} (Pv : Nat → L2.St → Hp → Prop) (h0 : Pv 0 σ H)
    (hs : ∀ i σ H, i < n → Pv i σ H → g (.int (lo + i)) σ H fun σ2 H2 => tb { nx := Pv (i + 1), rt := rt, bk := nx, ct := Pv (i + 1) } σ2 H2) (hd : ∀ σ H, Pv n σ H → nx σ H) :
    ∃ W : Nat → Nat → L2.St → Hp → Prop, (∃ m, W 0 m σ H) ∧ ∀ i m σ H, W i m σ H → ((Itr lo n).stop i H ∧ nx σ H) ∨ ((Itr lo n).go i H ∧ ∃ N : L2.St → Hp → Prop, (∀ σ' H', N σ' H' → ∃ m', m' < m ∧ W (i + 1) m' σ' H') ∧
      ∀ x H', (Itr lo n).yld i H x H' → g x σ H' fun σ2 H2 => tb { nx := N, rt := rt, bk := nx, ct := N } σ2 H2) := for_range (D := { nx := nx, rt := rt }) Pv h0 hs hd
/-! ### a comprehension that makes f of each item -/
theorem lc_map {K : PySem.W.Frag} {a : Addr} {xs : List V} {j : Nat} {te : TE} {σ : L2.St} {H1 : Hp} {D : Addr} {Qd : Hp → Prop} (f : V → V) (hD : H1 D = none) (hS : SqL K H1 a xs) (hn : xs.length ≤ 100000)
    (hs : ∀ x H Q, x ∈ xs → Same H1 H → (∀ H', Same H H' → Q (f x) H') → te ((σ.set j none).set j (some x)) H Q) (hd : ∀ H, Same H1 H → H D = some (.lst (xs.map f)) → Qd H) :
    ∃ W : Nat → Nat → Hp → Prop, (∃ m, W 0 m (upd H1 D (.lst []))) ∧ ∀ i m H, W i m H →
      ((Itl K a).stop i H ∧ Qd H) ∨ ((Itl K a).go i H ∧ ∃ Nx : Hp → Prop, (∀ H', Nx H' → ∃ m', m' < m ∧ W (i + 1) m' H') ∧ ∀ x H', (Itl K a).yld i H x H' → gName j x (wipe σ [j]) H' fun σ2 H2 => wipe σ2 [j] = wipe σ [j] ∧ tYes σ2 H2 fun b H3 =>
        if b = true then te σ2 H3 fun y H4 => ∃ acc, H4 D = some (.lst acc) ∧ acc.length < sizeLine ∧ Nx (upd H4 D (.lst (acc ++ [y]))) else Nx H3) := by
  refine lc_list (xs := xs) (fun i H => Same H1 H ∧ H D = some (.lst ((xs.take i).map f))) ⟨Same.new hD, by rw [upd_same]; rfl⟩ (fun i H _ h => h.1.seq hS) (fun i x H hx h => ?_) (fun H h => hd H h.1 (by rw [List.take_length] at h; exact h.2))
  have hi : i < xs.length := (List.getElem?_eq_some_iff.mp hx).1
  refine ⟨?_, ?_⟩
  · show (((σ.set j none).set j (some x)).set j none) = σ.set j none
    rw [List.set_set, List.set_set]
  · simp only [tYes, if_true]
    refine hs x H _ (List.mem_of_getElem? hx) h.1 fun H' s' => ?_
    refine ⟨_, s' _ _ h.2, ?_, fun b o e => ?_, ?_⟩
    · rw [List.length_map, List.length_take]; exact small64' (by omega)
    · have nb : b ≠ D := fun z => by rw [z, hD] at e; cases e
      rw [upd_ne nb]; exact s' _ _ (h.1 _ _ e)
    · rw [upd_same, List.take_add_one, hx, List.map_append]; rfl

/-! ### own errors with fields -/
/-- what the top has written of an own error's class, whose base is ValueError by some way -/
structure ExK (K : PySem.W.Frag) (mg : Str → Option Value) (x : Str) (C : Addr) : Prop where
  g : mg x = some (.ref C)
  T : OexC K C
  ga : PySem.W.findIn K (.ref C) "__getattribute__" = some (some (.builtin "BaseException.__getattribute__"))
  gg : PySem.W.findIn K (.ref C) "__getattr__" = some none
  hd : PySem.W.hasDictIn K C = true
  ca : PySem.W.findIn K (.ref C) "__class__" = some (some (.builtin "object.__class__"))
  sp : PySem.W.specialIn K (.builtin "object.__class__") "__get__" = some (some (.builtin "getset_descriptor.__get__"))
  tk : PySem.W.takesIn K (.builtin "object.__class__") = some true
  mr : PySem.W.mroIn K C (.type "object") = some true
theorem ExK.xf {K : PySem.W.Frag} {mg : Str → Option Value} {x : Str} {C : Addr} (k : ExK K mg x C) : XfC K C := ⟨k.ga, k.gg, k.T.exC, k.hd⟩
def spI1 (K : PySem.W.Frag) (C : Addr) (a : Str) : Sp := fun vs H Q _ => ∃ (s : Addr) (v : V), vs = [.ref s, v] ∧ H s = some (exo s C none) ∧
  ∀ d, H d = none → d ≠ s → Q .non (upd (upd H d (exd d [(a, v)])) s (exo s C (some d)))
def spI2 (K : PySem.W.Frag) (C : Addr) (a b : Str) : Sp := fun vs H Q _ => ∃ (s : Addr) (v u : V), vs = [.ref s, v, u] ∧ H s = some (exo s C none) ∧
  ∀ d, H d = none → d ≠ s → Q .non (upd (upd (upd H d (exd d [(a, v)])) s (exo s C (some d))) d (exd d [(b, u), (a, v)]))
theorem del_upd {H : Hp} {s d : Addr} {o o' : HO} (hs : H s = none) (hd : H d = none) (ne : d ≠ s) {K : Hp} (hK : ∀ b, b ≠ s → b ≠ d → K b = H b) : Same H (upd (del K s) d o) := fun b x e => by
  have nd : b ≠ d := ne_of_none e hd
  have ns : b ≠ s := ne_of_none e hs
  rw [upd_ne nd, del_ne ns, hK b ns nd]; exact e
/-- X(v): an error flies whose dict, new at d, holds the field; all else stands -/
theorem fly1 {K : PySem.W.Frag} {C : Addr} {a : Str} {v : V} {H : Hp} {Q : XK} (h : ∀ d Hf, Same H Hf → Hf d = some (.xd [(a, v)]) → Q (.ref C) (some d) Hf) :
    ([v] : List V).length ≤ 1000 ∧ ∀ s, H s = none → spI1 K C a (.ref s :: ([v] ++ [])) (upd H s (exo s C none))
      (fun v H2 => v = .non ∧ ∃ (d : Addr) (fs : List (Str × V)), H2 s = some (exo s C (some d)) ∧ H2 d = some (exd d fs) ∧ H d = none ∧ Q (.ref C) (some d) (upd (del H2 s) d (.xd fs))) (fun _ _ _ => False) := by
  refine ⟨by show 1 ≤ 1000; decide, fun s hs => ⟨s, v, rfl, upd_same, fun d hd ne => ⟨rfl, d, [(a, v)], upd_same, ?_, ?_, ?_⟩⟩⟩
  · rw [upd_ne ne, upd_same]
  · rw [upd_ne ne] at hd; exact hd
  · have hd' : H d = none := by rw [upd_ne ne] at hd; exact hd
    refine h d _ (del_upd (o' := .lst []) hs hd' ne fun b nb nd => ?_) upd_same
    rw [upd_ne nb, upd_ne nd, upd_ne nb]
theorem fly2 {K : PySem.W.Frag} {C : Addr} {a b : Str} {v u : V} {H : Hp} {Q : XK} (h : ∀ d Hf, Same H Hf → Hf d = some (.xd [(b, u), (a, v)]) → Q (.ref C) (some d) Hf) :
    ([v, u] : List V).length ≤ 1000 ∧ ∀ s, H s = none → spI2 K C a b (.ref s :: ([v, u] ++ [])) (upd H s (exo s C none))
      (fun v H2 => v = .non ∧ ∃ (d : Addr) (fs : List (Str × V)), H2 s = some (exo s C (some d)) ∧ H2 d = some (exd d fs) ∧ H d = none ∧ Q (.ref C) (some d) (upd (del H2 s) d (.xd fs))) (fun _ _ _ => False) := by
  refine ⟨by show 2 ≤ 1000; decide, fun s hs => ⟨s, v, u, rfl, upd_same, fun d hd ne => ⟨rfl, d, [(b, u), (a, v)], ?_, upd_same, ?_, ?_⟩⟩⟩
  · rw [upd_ne ne.symm, upd_same]
  · rw [upd_ne ne] at hd; exact hd
  · have hd' : H d = none := by rw [upd_ne ne] at hd; exact hd
    refine h d _ (del_upd (o' := .lst []) hs hd' ne fun b nb nd => ?_) upd_same
    rw [upd_ne nd, upd_ne nb, upd_ne nd, upd_ne nb]
section
variable {P : Program} {w : World} {K : PySem.W.Frag} {mg : Str → Option Value} {base : Heap} {C f : Addr} {fd : FuncData} {qual : Str}
/-- an __init__ that stores its one parameter, its two parameters, under their names -/
theorem init1 {st : Stmt} {a : Str} (F : L2.Fun K "__init__" qual st f fd) (S : FnScope ["self", a] ["self", a] (defScope st)) (T : OexC K C) (na : PySem.W.findIn K (.ref C) a = some none) {p1 p2 p3 p4 : Pos} (hb : defBody st = [.Assign [.Attribute (.Name "self" p1) a p2] (.Name a p3) p4])
    (va : Vis (defScope st) a) (vs : Vis (defScope st) "self") (d1 : (a == ("__debug__" : Str)) = false) (d2 : (a == ("__classdict__" : Str)) = false) : FnOk P w K mg base CX0 1 f fd ["self", a] (spI1 K C a) := by
  refine F.ok S (fun vs H Q E h => ?_) (fun cdv A outer s H vs Q E hr h => ?_)
  · obtain ⟨s, v, rfl, _⟩ := h; rfl
  · obtain ⟨s, v, rfl, hs, q⟩ := h
    rw [hb]
    refine ⟨_, pss_one (ps_ost (pe_var (i := 0) rfl (by assumption)) (pe_var (i := 1) rfl (by assumption) d1 d2)), ?_⟩
    exact ⟨_, rfl, _, rfl, s, C, rfl, T, na, .inl ⟨hs, fun d hd ne => q d hd ne⟩⟩
theorem init2 {st : Stmt} {a b : Str} (F : L2.Fun K "__init__" qual st f fd) (S : FnScope ["self", a, b] ["self", a, b] (defScope st)) (T : OexC K C) (na : PySem.W.findIn K (.ref C) a = some none) (nb : PySem.W.findIn K (.ref C) b = some none) {p1 p2 p3 p4 q1 q2 q3 q4 : Pos}
    (hb : defBody st = [.Assign [.Attribute (.Name "self" p1) a p2] (.Name a p3) p4, .Assign [.Attribute (.Name "self" q1) b q2] (.Name b q3) q4])
    (va : Vis (defScope st) a) (vb : Vis (defScope st) b) (vs : Vis (defScope st) "self") (d1 : (a == ("__debug__" : Str)) = false) (d2 : (a == ("__classdict__" : Str)) = false) (d3 : (b == ("__debug__" : Str)) = false) (d4 : (b == ("__classdict__" : Str)) = false) : FnOk P w K mg base CX0 1 f fd ["self", a, b] (spI2 K C a b) := by
  refine F.ok S (fun vs H Q E h => ?_) (fun cdv A outer s H vs Q E hr h => ?_)
  · obtain ⟨s, v, u, rfl, _⟩ := h; rfl
  · obtain ⟨s, v, u, rfl, hs, q⟩ := h
    rw [hb]
    refine ⟨_, pss_cons (ps_ost (pe_var (i := 0) rfl (by assumption)) (pe_var (i := 1) rfl (by assumption) d1 d2)) (pss_one (ps_ost (pe_var (i := 0) rfl (by assumption)) (pe_var (i := 2) rfl (by assumption) d3 d4))), ?_⟩
    refine ⟨_, rfl, _, rfl, s, C, rfl, T, na, .inl ⟨hs, fun d hd ne => ?_⟩⟩
    exact ⟨_, rfl, _, rfl, s, C, rfl, T, nb, .inr ⟨d, _, upd_same, by rw [upd_ne ne, upd_same], (by show 1 ≤ 900; decide), q d hd ne⟩⟩
end
/-- isinstance(e, c), e the caught error at a, of the class D, its dict at dd -/
theorem call_isX {X : Cx} {a D : Addr} {oe : Obj} {cls : Value} {d : Option Addr} {pn : List (Addr × Obj)} (hz : Zc cls d oe) (hf : ∃ vs, oe.data = .fields vs) {x : Str} (k : ExK X.K X.mg x D) : CallR (X.suite a ((a, oe) :: pn)) (.builtin "isinstance")
    (fun xs H Q => ∃ (c : V) (cv : Value) (b : Bool) (dd : Addr) (fs : List (Str × V)), xs = [.ref a, c] ∧ cls = .ref D ∧ d = some dd ∧ H dd = some (.xd fs) ∧ RelV c cv ∧ (∀ u, RelV c u → u = cv) ∧ PySem.W.kitOne X.K (.ref D) cv = some b ∧ Q (.bl b) H) := by
  intro pins s σ H xs us Q I r h
  obtain ⟨c, cv, b, dd, fs, rfl, rfl, rfl, ea, _, hcv, e, q⟩ := h
  obtain ⟨u1, u2, rfl, r1, r2⟩ := vals2 r
  cases r1
  have ec := hcv _ r2
  subst ec
  obtain ⟨hget, _⟩ := I.pin (a, oe) (List.mem_append.mpr (.inl List.mem_cons_self))
  obtain ⟨vs, hv⟩ := hf
  have hx : ObjOk X.prog X.w H s.heap dd (.xd fs) := I.hok dd _ ea
  obtain ⟨mA, ⟨od, es, ep, ho, hl⟩, hr⟩ := hx
  have J : PySem.W.InstAt s.heap a oe D (some od) := ⟨hget, hz.1, by unfold PySem.W.notCls; rw [hv] <;> rfl, by rw [hz.2]; exact ho⟩
  have hc : (PySem.W.clsIn X.K D).isSome = true := by
    have h := k.hd
    unfold PySem.W.hasDictIn at h
    cases hh : PySem.W.clsIn X.K D with
    | none => rw [hh] at h; cases h
    | some cd => rfl
  exact PySem.W.kia_one (PySem.W.kitx_exc hc k.ga k.gg k.T.exC k.ca k.sp k.tk k.mr) I.kIn J e (fun z => nomatch z) fun tk => ⟨.bl b, H, I.kept (t' := tk) fun _ _ z => z, rfl, q⟩
/-- what isinstance and an except clause ask of own classes -/
theorem kit_self {K : PySem.W.Frag} {C : Addr} : PySem.W.kitOne K (.ref C) (.ref C) = some true := by
  unfold PySem.W.kitOne
  rw [if_pos (by exact beq_self_eq_true (Value.ref C))]
theorem kit_two {K : PySem.W.Frag} {D C : Addr} {b : Bool} (ne : (Value.ref D == Value.ref C) = false) (hd : PySem.W.hasDictIn K C = true) (ht : PySem.W.typeIn K (.ref C) = some (.type "type")) (hs : PySem.W.subIn K (.ref D) (.ref C) = some b) : PySem.W.kitOne K (.ref D) (.ref C) = some b := by
  have hc : (PySem.W.clsIn K C).isSome = true := by
    unfold PySem.W.hasDictIn at hd
    cases hh : PySem.W.clsIn K C with
    | none => rw [hh] at hd; cases hd
    | some cd => rfl
  unfold PySem.W.kitOne PySem.W.kitCls
  rw [ne, if_neg (by decide)]
  show (if ((PySem.W.clsIn K C).isSome && PySem.W.typeIn K (.ref C) == some (.type "type")) = true then PySem.W.subIn K (.ref D) (.ref C) else none) = some b
  rw [hc, ht, hs]; rfl
theorem kit_ve {K : PySem.W.Frag} {D : Addr} (hs : PySem.W.subIn K (.ref D) (.type "ValueError") = some true) : PySem.W.kitOne K (.ref D) (.type "ValueError") = some true := by
  unfold PySem.W.kitOne PySem.W.kitCls
  rw [show (Value.ref D == Value.type "ValueError") = false from rfl, if_neg (by decide)]
  show (if PySem.W.kitMeta "ValueError" = true then PySem.W.subIn K (.ref D) (.type "ValueError") else none) = some true
  rw [if_pos (by decide +kernel), hs]

/-! ### the text by places -/
def top (i : Nat) : Stmt := PySem.Challenge.pw_wasmhost_k13_names.main.body.getD i (.Pass ⟨0, 0, 0, 0⟩)
abbrev s_character_of : Stmt := top 3
abbrev s_write_unsigned : Stmt := top 9
abbrev s_byte_at : Stmt := top 10
abbrev s_read_groups : Stmt := top 11
abbrev s_read_unsigned : Stmt := top 12
abbrev s_read_number : Stmt := top 14
abbrev s_read_items : Stmt := top 15
abbrev s_read_character : Stmt := top 17
abbrev s_read_name : Stmt := top 18
abbrev s_write_name : Stmt := top 20
abbrev s__law_mixed : Stmt := top 22
abbrev s__law_take : Stmt := top 23
abbrev s__law_char : Stmt := top 24
abbrev s__law_name : Stmt := top 25
abbrev s__law_is_bytes : Stmt := top 26
abbrev s__law_due : Stmt := top 27
abbrev s__law_told : Stmt := top 28
abbrev s__law_right : Stmt := top 29
abbrev s_law : Stmt := top 30
theorem sc_character_of : FnScope ["code"] ["code"] (defScope s_character_of) := ⟨rfl, rfl, rfl, by decide +kernel, rfl, by decide +kernel, by decide +kernel⟩
theorem sc_write_unsigned : FnScope ["number", "data"] ["number"] (defScope s_write_unsigned) := ⟨rfl, rfl, rfl, by decide +kernel, rfl, by decide +kernel, by decide +kernel⟩
theorem sc_byte_at : FnScope ["data", "place", "end"] ["data", "place", "end"] (defScope s_byte_at) := ⟨rfl, rfl, rfl, by decide +kernel, rfl, by decide +kernel, by decide +kernel⟩
theorem sc_read_groups : FnScope ["data", "place", "end", "bits", "low", "left", "byte"] ["data", "place", "end", "bits"] (defScope s_read_groups) := ⟨rfl, rfl, rfl, by decide +kernel, rfl, by decide +kernel, by decide +kernel⟩
theorem sc_read_unsigned : FnScope ["data", "place", "end", "bits", "low", "last", "left"] ["data", "place", "end", "bits"] (defScope s_read_unsigned) := ⟨rfl, rfl, rfl, by decide +kernel, rfl, by decide +kernel, by decide +kernel⟩
theorem sc_read_number : FnScope ["data", "place", "end"] ["data", "place", "end"] (defScope s_read_number) := ⟨rfl, rfl, rfl, by decide +kernel, rfl, by decide +kernel, by decide +kernel⟩
theorem sc_read_items : FnScope ["data", "place", "end", "count", "read_item", "items", "_", "item"] ["data", "place", "end", "count", "read_item"] (defScope s_read_items) := ⟨rfl, rfl, rfl, by decide +kernel, rfl, by decide +kernel, by decide +kernel⟩
theorem sc_read_character : FnScope ["data", "place", "end", "character"] ["data", "place", "end"] (defScope s_read_character) := ⟨rfl, rfl, rfl, by decide +kernel, rfl, by decide +kernel, by decide +kernel⟩
theorem sc_read_name : FnScope ["data", "place", "end", "count", "characters"] ["data", "place", "end"] (defScope s_read_name) := ⟨rfl, rfl, rfl, by decide +kernel, rfl, by decide +kernel, by decide +kernel⟩
theorem sc_write_name : FnScope ["name", "character"] ["name"] (defScope s_write_name) := ⟨rfl, rfl, rfl, by decide +kernel, rfl, by decide +kernel, by decide +kernel⟩
theorem sc__law_mixed : FnScope ["cell", "seed", "number", "k"] ["cell"] (defScope s__law_mixed) := ⟨rfl, rfl, rfl, by decide +kernel, rfl, by decide +kernel, by decide +kernel⟩
theorem sc__law_take : FnScope ["state", "limit", "digit", "cell"] ["state", "limit"] (defScope s__law_take) := ⟨rfl, rfl, rfl, by decide +kernel, rfl, by decide +kernel, by decide +kernel⟩
theorem sc__law_char : FnScope ["number", "chars"] ["number"] (defScope s__law_char) := ⟨rfl, rfl, rfl, by decide +kernel, rfl, by decide +kernel, by decide +kernel⟩
theorem sc__law_name : FnScope ["state", "size", "k"] ["state"] (defScope s__law_name) := ⟨rfl, rfl, rfl, by decide +kernel, rfl, by decide +kernel, by decide +kernel⟩
theorem sc__law_is_bytes : FnScope ["data", "byte"] ["data"] (defScope s__law_is_bytes) := ⟨rfl, rfl, rfl, by decide +kernel, rfl, by decide +kernel, by decide +kernel⟩
theorem sc__law_due : FnScope ["data", "place", "end", "count", "after", "name", "k", "code"] ["data", "place", "end"] (defScope s__law_due) := ⟨rfl, rfl, rfl, by decide +kernel, rfl, by decide +kernel, by decide +kernel⟩
theorem sc__law_told : FnScope ["data", "place", "end", "e"] ["data", "place", "end"] (defScope s__law_told) := ⟨rfl, rfl, rfl, by decide +kernel, rfl, by decide +kernel, by decide +kernel⟩
theorem sc__law_right : FnScope ["data", "place", "end", "due", "passed", "told"] ["data", "place", "end"] (defScope s__law_right) := ⟨rfl, rfl, rfl, by decide +kernel, rfl, by decide +kernel, by decide +kernel⟩
theorem sc_law : FnScope ["script", "state", "k", "name", "data", "before", "file", "place", "changed", "cell", "char"] ["script"] (defScope s_law) := ⟨rfl, rfl, rfl, by decide +kernel, rfl, by decide +kernel, by decide +kernel⟩
/-- where the own classes stand -/
structure Cs where
  C_HostError : Addr
  C_DecodeError : Addr
  I_DecodeError : Addr
  D_DecodeError : FuncData
  f_read_character : Addr
abbrev i_DecodeError : Stmt := inClass (top 6) 0
theorem sci_DecodeError : FnScope ["self", "reason", "place"] ["self", "reason", "place"] (defScope i_DecodeError) := ⟨rfl, rfl, rfl, by decide +kernel, rfl, by decide +kernel, by decide +kernel⟩
/-- what the top leaves: built-in names that nothing binds, own classes -/
structure Tp (w : World) (K : PySem.W.Frag) (mg : Str → Option Value) (cs : Cs) : Prop where
  m_abs : mg "abs" = none
  m_bool : mg "bool" = none
  m_int : mg "int" = none
  m_isinstance : mg "isinstance" = none
  m_len : mg "len" = none
  m_list : mg "list" = none
  m_ord : mg "ord" = none
  m_range : mg "range" = none
  m_str : mg "str" = none
  m_tuple : mg "tuple" = none
  g_HostError : mg "HostError" = some (.ref cs.C_HostError)
  g_DecodeError : mg "DecodeError" = some (.ref cs.C_DecodeError)
  e_DecodeError : ExK K mg "DecodeError" cs.C_DecodeError
  iC_DecodeError : PySem.W.findIn K (.ref cs.C_DecodeError) "__init__" = some (some (.ref cs.I_DecodeError))
  tI_DecodeError : PySem.W.typeIn K (.ref cs.I_DecodeError) = some (.type "function")
  F_DecodeError : L2.Fun K "__init__" "DecodeError.__init__" i_DecodeError cs.I_DecodeError cs.D_DecodeError
  b_DecodeError : Binds K cs.D_DecodeError ["self", "reason", "place"] []
  no_DecodeError_reason : PySem.W.findIn K (.ref cs.C_DecodeError) "reason" = some none
  no_DecodeError_place : PySem.W.findIn K (.ref cs.C_DecodeError) "place" = some none
  kit_DecodeError_HostError : PySem.W.kitOne K (.ref cs.C_DecodeError) (.ref cs.C_HostError) = some true
  exm_DecodeError_HostError : PySem.W.exmOne K (.ref cs.C_DecodeError) (.ref cs.C_HostError) = some true
  kit_DecodeError_DecodeError : PySem.W.kitOne K (.ref cs.C_DecodeError) (.ref cs.C_DecodeError) = some true
  exm_DecodeError_DecodeError : PySem.W.exmOne K (.ref cs.C_DecodeError) (.ref cs.C_DecodeError) = some true
  kit_DecodeError_VE : PySem.W.kitOne K (.ref cs.C_DecodeError) (.type "ValueError") = some true
  i_MOST_CHARACTERS : ∃ t, mg "MOST_CHARACTERS" = some (.int 60 t)
  w_LOW_CHARACTERS : ∃ t, mg "LOW_CHARACTERS" = some (.str (" !\"#$" : Str) t)
  w_HIGH_CHARACTERS : ∃ t, mg "HIGH_CHARACTERS" = some (.str ("&'()*+,-./0123456789:;<=>?@ABCDEFGHIJKLMNOPQRSTUVWXYZ[\\]^_`abcdefghijklmnopqrstuvwxyz{|}~" : Str) t)
  h_read_character : mg "read_character" = some (.ref cs.f_read_character)
theorem in_DecodeError {P : Program} {w : World} {K : PySem.W.Frag} {mg : Str → Option Value} {base : Heap} {cs : Cs} (T : Tp w K mg cs) : FnOk P w K mg base CX0 1 cs.I_DecodeError cs.D_DecodeError ["self", "reason", "place"] (spI2 K cs.C_DecodeError "reason" "place") :=
  init2 T.F_DecodeError sci_DecodeError T.e_DecodeError.T T.no_DecodeError_reason T.no_DecodeError_place rfl (.inl rfl) (.inl rfl) (.inl rfl) (by decide) (by decide) (by decide) (by decide)
section
variable {X : Cx}
/-- a call of a local that holds one of several defs; each may let out what X.xe takes -/
def tCallT (i : Nat) (S : Addr → Sp → Prop) (E : XK) (t : TA) : TE := fun σ H Q => ∃ f sp, σ[i]? = some (some (.ref f)) ∧ S f sp ∧ t σ H fun vs H1 => sp vs H1 Q E
theorem pe_callT {S : Addr → Sp → Prop} {C : CXT} {E : XK} {k j : Nat} {i : Nat} {x : Str} {p pos : Pos} {es : List Expr} {t : TA} (A : ∀ f sp, S f sp → ∃ (y : Str), Cal X.prog X.w X.K X.mg X.base C k y sp ∧ X.mg y = some (.ref f)) (hr : Room j X.A) (hk : k ≤ j) (hN : X.N[i]? = some x) (hv : Vis X.env.scope x)
    (hx : Passes C X E) (ha : PA X (e :: es) t)
    (hdb : (x == ("__debug__" : Str)) = false := by decide) (hcd : (x == ("__classdict__" : Str)) = false := by decide)
    (he : starEach (e :: es) X.env = (false, eval e X.env) :: starEach es X.env := by rfl) (hpl : (backTo pos (starEach es X.env)).any (·.1) = false := by rfl) : PE X (.Call (.Name x p) (e :: es) [] pos) (tCallT i S E t) := by
  refine ⟨fun pins s σ H Q I h => ?_⟩
  obtain ⟨f, sp, hs, hS, ht⟩ := h
  obtain ⟨y, c, hy⟩ := A f sp hS
  obtain ⟨f', fd, ps, F, hm, kp, b⟩ := c.ex
  obtain rfl : f' = f := by rw [hm] at hy; cases hy; rfl
  refine (pe_callL (i := i) (f := f') (sp := sp) (dvs := []) (E := E) F (hr.mono hk) hN hv kp b .nil hx ha hdb hcd he hpl).run pins s σ H Q I ⟨hs, ?_⟩
  have e0 : (fun (vs : List V) (H1 : Hp) => sp (vs ++ []) H1 Q E) = fun vs H1 => sp vs H1 Q E := by
    funext vs H1
    rw [List.append_nil]
  rw [e0]
  exact ht
end

section
variable {X : Cx} {s : Shared} {H : Hp} {sc : Scope} {en : Env} {fp : List Addr}
theorem sl_tupB : SlR (X.blk s H sc en fp) (rSlT X.K) := sl_tup
theorem pi_listT {tg iter : Expr} {te : TE} {pn : List (Addr × Obj)} {xe : Value → Shared → Prop} (he : PE (X.tr pn xe) iter te) : PI (X.tr pn xe) tg iter (iList X.K te) := pi_list he
theorem ix_tupTr {pn : List (Addr × Obj)} {xe : Value → Shared → Prop} : IxR (X.tr pn xe) (L2.rIxT X.K) := ix_tup
theorem ix_listTr {pn : List (Addr × Obj)} {xe : Value → Shared → Prop} : IxR (X.tr pn xe) (L2.rIxL X.K) := ix_list
theorem sl_tupBT {pn : List (Addr × Obj)} {xe : Value → Shared → Prop} : SlR ((X.tr pn xe).blk s H sc en fp) (rSlT X.K) := sl_tup
theorem op_catTB : OpR (X.blk s H sc en fp) (binaryOp .Add) (rCatT X.K) := op_catT
theorem op_neDB (hu : X.A.units + 64 < cLine) : OpR (X.blk s H sc en fp) (compareOp .NotEq) (rNeD X.K) := op_neD (X := X.blk s H sc en fp) hu
theorem op_eqDB (hu : X.A.units + 64 < cLine) : OpR (X.blk s H sc en fp) (compareOp .Eq) (rEqD X.K) := op_eqD (X := X.blk s H sc en fp) hu
end

/-! ### lists of ints that are the same -/
theorem dp_all {K : PySem.W.Frag} {H : Hp} : ∀ ns : List Int, DpAll K H (ns.map V.int) (ns.map PyData.int)
  | [] => .nil
  | _ :: r => .cons (.int _) (dp_all r)
theorem canlay_ints : ∀ ns : List Int, PyData.canLayAll0 (ns.map PyData.int) = true
  | [] => rfl
  | _ :: r => by
    show PyData.canLayAll0 (PyData.int _ :: r.map PyData.int) = true
    simp only [PyData.canLayAll0, PyData.canLay0, canlay_ints r, Bool.and_self]
theorem depth_ints : ∀ ns : List Int, PyData.depthAll (ns.map PyData.int) ≤ 63
  | [] => by simp [PyData.depthAll]
  | _ :: r => by
    have h := depth_ints r
    simp [PyData.depthAll, PyData.depth] at h ⊢
    exact h
theorem shaped_ints (ns : List Int) : SeqAt.shaped (.list (ns.map PyData.int)) = true := by
  unfold SeqAt.shaped
  rw [Bool.and_eq_true]
  refine ⟨?_, decide_eq_true ?_⟩
  · simp only [PyData.canLay0, canlay_ints]
  · have h := depth_ints ns
    simp only [PyData.depth] at h ⊢
    omega
theorem eqD_same {K : PySem.W.Frag} {H : Hp} {x y : V} {d : PyData} {Q : VK} (h1 : Dp K H x d) (h2 : Dp K H y d) (s : SeqAt.shaped d = true) (q : Q (.bl true) H) : rEqD K x y H Q :=
  ⟨d, d, h1, h2, s, s, by rw [SeqAt.eqv_refl d (SeqAt.canLay_of_shaped s)]; exact q⟩
theorem neD_same {K : PySem.W.Frag} {H : Hp} {x y : V} {d : PyData} {Q : VK} (h1 : Dp K H x d) (h2 : Dp K H y d) (s : SeqAt.shaped d = true) (q : Q (.bl false) H) : rNeD K x y H Q :=
  ⟨d, d, h1, h2, s, s, by rw [SeqAt.eqv_refl d (SeqAt.canLay_of_shaped s)]; exact q⟩
theorem dp_ints {K : PySem.W.Frag} {H : Hp} {a : Addr} {ns : List Int} (h : SqL K H a (ns.map V.int)) : Dp K H (.ref a) (.list (ns.map PyData.int)) := .lst h (dp_all ns)
theorem eqv_ints (ns : List Int) : PyData.eqv (.list (ns.map PyData.int)) (.list (ns.map PyData.int)) = true := SeqAt.eqv_refl _ (SeqAt.canLay_of_shaped (shaped_ints ns))

/-! ### ifs and tests whose answer is known -/
theorem ifNe {x y : Int} {A B : Prop} (e : x = y) (h : B) : if (!decide (V.int x = V.int y)) = true then A else B := by
  subst e
  rw [decide_eq_true rfl]
  exact h
theorem ifNeN {x y : Int} {A B : Prop} (e : ¬ x = y) (h : A) : if (!decide (V.int x = V.int y)) = true then A else B := by
  rw [decide_eq_false (fun z => e (V.int.inj z))]
  exact h
theorem eqT {x y : Int} (e : x = y) : decide (V.int x = V.int y) = true := decide_eq_true (congrArg V.int e)
theorem qT {x y : Int} {Q : VK} {H : Hp} (e : x = y) (h : Q (.bl true) H) : Q (.bl (decide (V.int x = V.int y))) H := by rw [eqT e]; exact h
theorem orV {t u : TE} {σ : L2.St} {H : Hp} {Q : VK} (b1 b2 : Bool) (h1 : ∀ Q, (∀ H', Same H H' → Q (.bl b1) H') → t σ H Q) (h2 : ∀ H' Q, Q (.bl b2) H' → u σ H' Q) (q : ∀ H', Same H H' → Q (.bl (b1 || b2)) H') : tOrV t u σ H Q := by
  refine h1 _ fun H' s => ⟨b1, rfl, ?_⟩
  cases b1 with
  | true => rw [if_pos rfl]; exact q _ s
  | false => rw [if_neg (by decide)]; exact h2 _ _ (q _ s)
theorem andV {t u : TE} {σ : L2.St} {H : Hp} {Q : VK} (b1 b2 : Bool) (h1 : ∀ Q, Q (.bl b1) H → t σ H Q) (h2 : ∀ Q, Q (.bl b2) H → u σ H Q) (q : Q (.bl (b1 && b2)) H) : tAndV t u σ H Q := by
  refine h1 _ ⟨b1, rfl, ?_⟩
  cases b1 with
  | true => rw [if_pos rfl]; exact h2 _ q
  | false => rw [if_neg (by decide)]; exact q
theorem orF {t u : TT} {σ : L2.St} {H : Hp} {Q : Bool → Hp → Prop} (h1 : ∀ Q, (∀ H', Same H H' → Q false H') → t σ H Q) (h2 : ∀ H', Same H H' → ∀ Q, (∀ H'', Same H' H'' → Q false H'') → u σ H' Q) (q : ∀ H', Same H H' → Q false H') : tOr t u σ H Q := by
  refine h1 _ fun H' s => ?_
  rw [if_neg (by decide)]
  exact h2 _ s _ fun H'' s' => q _ (s.trans s')
theorem neF {x y : Int} {Q : Bool → Hp → Prop} {H : Hp} (e : x = y) (h : Q false H) : Q (!decide (V.int x = V.int y)) H := by rw [eqT e]; exact h
theorem ifEq {x y : Int} {A B : Prop} (e : x = y) (h : A) : if decide (V.int x = V.int y) = true then A else B := by rw [eqT e]; exact h
theorem ifEqN {x y : Int} {A B : Prop} (e : ¬ x = y) (h : B) : if decide (V.int x = V.int y) = true then A else B := by
  rw [decide_eq_false (fun z => e (V.int.inj z))]; exact h
theorem ifS {x y : Str} {A B : Prop} (e : x = y) (h : A) : if decide (V.str x = V.str y) = true then A else B := by rw [if_pos (decide_eq_true (congrArg V.str e))]; exact h
theorem ifSN {x y : Str} {A B : Prop} (e : ¬ x = y) (h : B) : if decide (V.str x = V.str y) = true then A else B := by
  rw [if_neg (fun z => e (V.str.inj (of_decide_eq_true z)))]; exact h
theorem ifNeS {x y : Str} {A B : Prop} (e : x = y) (h : B) : if (!decide (V.str x = V.str y)) = true then A else B := by
  subst e
  rw [decide_eq_true rfl]
  exact h
theorem qTS {x y : Str} {Q : VK} {H : Hp} (e : x = y) (h : Q (.bl true) H) : Q (.bl (decide (V.str x = V.str y))) H := by rw [decide_eq_true (congrArg V.str e)]; exact h
theorem call_isiS {X : Cx} {a : Addr} {ps : List (Addr × Obj)} : CallR (X.suite a ps) (.builtin "isinstance") (rIsi X.K) := call_isi
theorem for_tupE {K : PySem.W.Frag} {a : Addr} {xs : List V} {g : TG} {tb : TS} {nx : L2.St → Hp → Prop} {rt : VK} {σ : L2.St} {H : Hp} (Pv : Nat → L2.St → Hp → Prop) (h0 : Pv 0 σ H) (hl : ∀ i σ H, i ≤ xs.length → Pv i σ H → SqT K H a xs)
    (hs : ∀ i x σ H, xs[i]? = some x → Pv i σ H → g x σ H fun σ2 H2 => tb { nx := Pv (i + 1), rt := rt, bk := nx, ct := Pv (i + 1) } σ2 H2) (hd : ∀ σ H, Pv xs.length σ H → nx σ H) :
    ∃ W : Nat → Nat → L2.St → Hp → Prop, (∃ m, W 0 m σ H) ∧ ∀ i m σ H, W i m σ H → ((Itt K a).stop i H ∧ nx σ H) ∨ ((Itt K a).go i H ∧ ∃ N : L2.St → Hp → Prop, (∀ σ' H', N σ' H' → ∃ m', m' < m ∧ W (i + 1) m' σ' H') ∧
      ∀ x H', (Itt K a).yld i H x H' → g x σ H' fun σ2 H2 => tb { nx := N, rt := rt, bk := nx, ct := N } σ2 H2) := for_tup (D := { nx := nx, rt := rt }) Pv h0 hl hs hd
theorem isi_bool {K : PySem.W.Frag} {H : Hp} {b : Bool} {Q : VK} (q : Q (.bl true) H) : rIsi K [.bl b, .ty "bool"] H Q := ⟨.bl b, .ty "bool", _, _, true, rfl, .ty _, .base (.bl _), kit_ty (by decide +kernel), q⟩
theorem ne_of_nd {x y : Int} (h : (!decide (V.int x = V.int y)) = true) : ¬ x = y := fun e => by
  rw [decide_eq_true (congrArg V.int e)] at h; cases h
theorem eq_of_nd {x y : Int} (h : ¬ (!decide (V.int x = V.int y)) = true) : x = y := by
  by_cases e : x = y
  · exact e
  · exact absurd (by rw [decide_eq_false (fun z => e (V.int.inj z))]; rfl) h
theorem eq_of_d {x y : Int} (h : decide (V.int x = V.int y) = true) : x = y := V.int.inj (of_decide_eq_true h)
theorem ne_of_d {x y : Int} (h : ¬ decide (V.int x = V.int y) = true) : ¬ x = y := fun e => h (decide_eq_true (congrArg V.int e))
theorem sign_of (d : Nat) : -1 ≤ ([1, -1] : List Int).getD d 0 ∧ ([1, -1] : List Int).getD d 0 ≤ 1 := by
  match d with
  | 0 => decide
  | 1 => decide
  | _ + 2 => exact (by decide : (-1 : Int) ≤ 0 ∧ (0 : Int) ≤ 1)
section
variable {X : Cx} {s : Shared} {H : Hp} {sc : Scope} {en : Env} {fp : List Addr}
theorem ix_listB : IxR (X.blk s H sc en fp) (L2.rIxL X.K) := ix_list
theorem ix_tupB : IxR (X.blk s H sc en fp) (L2.rIxT X.K) := ix_tup
theorem call_isiB : CallR (X.blk s H sc en fp) (.builtin "isinstance") (rIsi X.K) := call_isi
end
theorem andIf {t : TE} {σ : L2.St} {H : Hp} {Q : VK} {b1 b2 : Bool} (h : ∀ Q', Q' (.bl b2) H → t σ H Q') (q : Q (.bl (b1 && b2)) H) : if b1 = true then t σ H Q else Q (.bl false) H := by
  cases b1 with
  | true => exact h _ q
  | false => exact q
theorem op_eqDS {X : Cx} {a : Addr} {ps : List (Addr × Obj)} (hu : X.A.units + 64 < cLine) : OpR (X.suite a ps) (compareOp .Eq) (rEqD X.K) := op_eqD (X := X.suite a ps) hu
theorem isi_of {K : PySem.W.Frag} {H : Hp} {x : V} {n : String} {t : Value} {b : Bool} {Q : VK} (h : TyX K H x t) (k : PySem.W.kitOne K t (.type n) = some b) (q : Q (.bl b) H) : rIsi K [x, .ty n] H Q := ⟨x, .ty n, t, _, b, rfl, .ty _, h, k, q⟩

/-! ### lists of texts, heaps that grow -/
theorem newE {H H' : Hp} {p : Addr} {xs : List V} {zs : List Str} (h : H p = none) (e : upd H p (.lst xs) = H') (hx : xs = zs.map V.str) : Same H H' ∧ H' p = some (.lst (zs.map V.str)) := by
  subst e hx
  exact ⟨Same.new h, upd_same⟩
theorem at_strs {zs : List Str} {k : Nat} (h : k < zs.length) : ∃ z ∈ zs, atI (zs.map V.str) (k : Int) = some (.str z) :=
  ⟨zs[k], List.getElem_mem h, atI_nat (by rw [List.getElem?_map, List.getElem?_eq_getElem h]; rfl)⟩
theorem none_of {H H' : Hp} {p : Addr} (s : Same H H') (h : H' p = none) : H p = none := by
  cases e : H p with
  | none => rfl
  | some o => rw [s _ _ e] at h; cases h
theorem catE {H : Hp} {l b : Addr} {zs ys : List Str} {Q : VK} (hl : H l = some (.lst (zs.map V.str))) (hb : H b = some (.lst (ys.map V.str))) (hn : zs.length + ys.length ≤ 1000) (q : ∀ p H', Same H H' → H p = none → H' p = some (.lst ((zs ++ ys).map V.str)) → Q (.ref p) H') : rCat (.ref l) (.ref b) H Q :=
  ⟨l, b, _, _, rfl, rfl, hl, hb, by rw [List.length_map, List.length_map]; exact small64 (by omega), fun p hp => q p _ (Same.new hp) hp (by rw [upd_same, List.map_append])⟩
def LstS (H : Hp) (Q : VK) (zs : List Str) : Prop := ∀ p H', Same H H' → H p = none → H' p = some (.lst (zs.map V.str)) → Q (.ref p) H'
theorem lc_mapS {K : PySem.W.Frag} {a : Addr} {zs : List Str} {j : Nat} {te : TE} {σ : L2.St} {H1 : Hp} {D : Addr} {Qd : Hp → Prop} (f : Str → Str) (hD : H1 D = none) (hS : SqL K H1 a (zs.map V.str)) (hn : zs.length ≤ 100000)
    (hs : ∀ z H Q, z ∈ zs → Same H1 H → (∀ H', Same H H' → Q (.str (f z)) H') → te ((σ.set j none).set j (some (.str z))) H Q) (hd : ∀ H, Same H1 H → H D = some (.lst ((zs.map f).map V.str)) → Qd H) :
    ∃ W : Nat → Nat → Hp → Prop, (∃ m, W 0 m (upd H1 D (.lst []))) ∧ ∀ i m H, W i m H →
      ((Itl K a).stop i H ∧ Qd H) ∨ ((Itl K a).go i H ∧ ∃ Nx : Hp → Prop, (∀ H', Nx H' → ∃ m', m' < m ∧ W (i + 1) m' H') ∧ ∀ x H', (Itl K a).yld i H x H' → gName j x (wipe σ [j]) H' fun σ2 H2 => wipe σ2 [j] = wipe σ [j] ∧ tYes σ2 H2 fun b H3 =>
        if b = true then te σ2 H3 fun y H4 => ∃ acc, H4 D = some (.lst acc) ∧ acc.length < sizeLine ∧ Nx (upd H4 D (.lst (acc ++ [y]))) else Nx H3) := by
  refine lc_map (f := fun v => match v with | .str z => .str (f z) | v => v) hD hS (by rw [List.length_map]; exact hn) (fun x H2 Q2 hx s2 q2 => ?_) (fun H2 s2 hD2 => ?_)
  · obtain ⟨z, hz, rfl⟩ := List.mem_map.mp hx
    exact hs z H2 Q2 hz s2 q2
  · refine hd H2 s2 ?_
    rw [hD2, List.map_map, List.map_map]; rfl
theorem flat_strs : ∀ zs : List Str, (zs.map V.str).all flatV = true
  | [] => rfl
  | _ :: r => flat_strs r
theorem inV_mem (z : Str) (zs : List Str) : inV (.str z) (zs.map V.str) = true ↔ z ∈ zs := by
  unfold inV
  rw [List.any_map, List.any_eq_true]
  constructor
  · rintro ⟨y, hy, e⟩
    have e' : (y == z) = true := e
    rw [← eq_of_beq e']; exact hy
  · intro h
    exact ⟨z, h, (beq_self_eq_true z : (z == z) = true)⟩

/-- a name that the module binds to an int -/
theorem pe_gint {X : Cx} {x : Str} {p : Pos} {i : Int} (hg : Gl X x) (hm : ∃ t, X.mg x = some (.int i t)) (hdb : (x == ("__debug__" : Str)) = false := by decide) : PE X (.Name x p) (tC (.int i)) := by
  obtain ⟨t, h⟩ := hm
  exact pe_glob hg h ⟨t, rfl⟩ hdb

/-! ### a loop over zip of two -/
theorem sqT_same {K : PySem.W.Frag} {H H' : Hp} {a : Addr} {xs : List V} (e : Same H H') (h : SqT K H a xs) : SqT K H' a xs := by
  rcases h with (h | ⟨o, h⟩) | h
  · exact .inl (.inl (e _ _ h))
  · exact .inl (.inr ⟨o, e _ _ h⟩)
  · exact .inr h
theorem for_zipD {K : PySem.W.Frag} {a b : Addr} {xs ys : List V} {g : TG} {tb : TS} {nx : L2.St → Hp → Prop} {rt : VK} {σ : L2.St} {H : Hp} (hl : xs.length = ys.length) (Pv : Nat → L2.St → Hp → Prop) (h0 : Pv 0 σ H) (hq : ∀ i σ H, Pv i σ H → SqT K H a xs ∧ SqT K H b ys)
    (hs : ∀ (i : Nat) (x y : V) (T : Addr) (σ : L2.St) (H : Hp), xs[i]? = some x → ys[i]? = some y → Pv i σ H → H T = none → g (.ref T) σ (upd H T (.tup [x, y])) fun σ2 H2 => tb { nx := Pv (i + 1), rt := rt, bk := nx, ct := Pv (i + 1) } σ2 H2) (hd : ∀ σ H, Pv xs.length σ H → nx σ H) :
    ∃ W : Nat → Nat → L2.St → Hp → Prop, (∃ m, W 0 m σ H) ∧ ∀ i m σ H, W i m σ H → ((RZ.ItzT K a b).stop i H ∧ nx σ H) ∨ ((RZ.ItzT K a b).go i H ∧ ∃ N : L2.St → Hp → Prop, (∀ σ' H', N σ' H' → ∃ m', m' < m ∧ W (i + 1) m' σ' H') ∧
      ∀ x H', (RZ.ItzT K a b).yld i H x H' → g x σ H' fun σ2 H2 => tb { nx := N, rt := rt, bk := nx, ct := N } σ2 H2) := RZ.for_zipT (D := { nx := nx, rt := rt }) hl Pv h0 hq hs hd
/-! ### a comprehension over a range, whose items are drawn -/
theorem lc_anyR {n j : Nat} {te : TE} {σ : L2.St} {H1 : Hp} {D : Addr} {Qd : Hp → Prop} (φ : V → Prop) (hD : H1 D = none) (hn : n ≤ 100000)
    (hs : ∀ i H Q, i < n → Same H1 H → (∀ y H', φ y → Same H H' → Q y H') → te ((σ.set j none).set j (some (.int i))) H Q) (hd : ∀ xs H, xs.length = n → (∀ x ∈ xs, φ x) → Same H1 H → H D = some (.lst xs) → Qd H) :
    ∃ W : Nat → Nat → Hp → Prop, (∃ m, W 0 m (upd H1 D (.lst []))) ∧ ∀ i m H, W i m H →
      ((Itr 0 n).stop i H ∧ Qd H) ∨ ((Itr 0 n).go i H ∧ ∃ Nx : Hp → Prop, (∀ H', Nx H' → ∃ m', m' < m ∧ W (i + 1) m' H') ∧ ∀ x H', (Itr 0 n).yld i H x H' → gName j x (wipe σ [j]) H' fun σ2 H2 => wipe σ2 [j] = wipe σ [j] ∧ tYes σ2 H2 fun b H3 =>
        if b = true then te σ2 H3 fun y H4 => ∃ acc, H4 D = some (.lst acc) ∧ acc.length < sizeLine ∧ Nx (upd H4 D (.lst (acc ++ [y]))) else Nx H3) := by
  refine lc_range (fun i H => Same H1 H ∧ ∃ xs : List V, xs.length = i ∧ (∀ x ∈ xs, φ x) ∧ H D = some (.lst xs)) ⟨Same.new hD, [], rfl, (fun _ z => nomatch z), upd_same⟩ (fun i H hi h => ?_) (fun H h => by obtain ⟨s, xs, hl, hx, hk⟩ := h; exact hd xs H hl hx s hk)
  rw [Int.zero_add]
  obtain ⟨s, xs, hl, hx, hk⟩ := h
  refine ⟨?_, ?_⟩
  · show (((σ.set j none).set j (some (V.int i))).set j none) = σ.set j none
    rw [List.set_set, List.set_set]
  · simp only [tYes, if_true]
    refine hs i H _ hi s fun y H' hy s' => ?_
    refine ⟨_, s' _ _ hk, ?_, fun b o e => ?_, xs ++ [y], ?_, fun x hx' => ?_, upd_same⟩
    · exact small64' (by omega)
    · have nb : b ≠ D := fun z => by rw [z, hD] at e; cases e
      rw [upd_ne nb]; exact s' _ _ (s _ _ e)
    · rw [List.length_append, hl]; rfl
    · rcases List.mem_append.mp hx' with z | z
      · exact hx x z
      · rw [List.mem_singleton] at z; rw [z]; exact hy
theorem ints_of {ψ : Int → Prop} : ∀ {xs : List V}, (∀ x ∈ xs, ∃ n, x = .int n ∧ ψ n) → ∃ ns : List Int, xs = ns.map V.int ∧ ∀ n ∈ ns, ψ n
  | [], _ => ⟨[], rfl, fun _ z => nomatch z⟩
  | x :: r, h => by
    obtain ⟨n, rfl, hn⟩ := h x (List.mem_cons_self ..)
    obtain ⟨ns, rfl, hns⟩ := ints_of fun y hy => h y (List.mem_cons_of_mem _ hy)
    refine ⟨n :: ns, rfl, fun m hm => ?_⟩
    rcases List.mem_cons.mp hm with e | hm
    · rw [e]; exact hn
    · exact hns m hm
theorem strs_of {ψ : Str → Prop} : ∀ {xs : List V}, (∀ x ∈ xs, ∃ z, x = .str z ∧ ψ z) → ∃ zs : List Str, xs = zs.map V.str ∧ ∀ z ∈ zs, ψ z
  | [], _ => ⟨[], rfl, fun _ z => nomatch z⟩
  | x :: r, h => by
    obtain ⟨n, rfl, hn⟩ := h x (List.mem_cons_self ..)
    obtain ⟨ns, rfl, hns⟩ := strs_of fun y hy => h y (List.mem_cons_of_mem _ hy)
    refine ⟨n :: ns, rfl, fun m hm => ?_⟩
    rcases List.mem_cons.mp hm with e | hm
    · rw [e]; exact hn
    · exact hns m hm

/-! ### texts by their codes -/
theorem pe_gstr {X : Cx} {x : Str} {p : Pos} {z : Str} (hg : Gl X x) (hm : ∃ t, X.mg x = some (.str z t)) (hdb : (x == ("__debug__" : Str)) = false := by decide) : PE X (.Name x p) (tC (.str z)) := by
  obtain ⟨t, h⟩ := hm
  exact pe_glob hg h ⟨t, rfl⟩ hdb
theorem for_strD {x : Str} {g : TG} {tb : TS} {nx : L2.St → Hp → Prop} {rt : VK} {σ : L2.St} {H : Hp} (Pv : Nat → L2.St → Hp → Prop) (h0 : Pv 0 σ H)
    (hs : ∀ i c σ H, x.cps.toList[i]? = some c → Pv i σ H → g (.str ⟨#[c]⟩) σ H fun σ2 H2 => tb { nx := Pv (i + 1), rt := rt, bk := nx, ct := Pv (i + 1) } σ2 H2) (hd : ∀ σ H, Pv x.cps.toList.length σ H → nx σ H) :
    ∃ W : Nat → Nat → L2.St → Hp → Prop, (∃ m, W 0 m σ H) ∧ ∀ i m σ H, W i m σ H → ((Its x).stop i H ∧ nx σ H) ∨ ((Its x).go i H ∧ ∃ N : L2.St → Hp → Prop, (∀ σ' H', N σ' H' → ∃ m', m' < m ∧ W (i + 1) m' σ' H') ∧
      ∀ y H', (Its x).yld i H y H' → g y σ H' fun σ2 H2 => tb { nx := N, rt := rt, bk := nx, ct := N } σ2 H2) := by
  have hz : x.cps.toList.length = x.cps.size := Array.length_toList
  refine ⟨fun i m σ H => m = x.cps.size - i ∧ i ≤ x.cps.size ∧ Pv i σ H, ⟨x.cps.size, by simp, Nat.zero_le _, h0⟩, ?_⟩
  rintro i m σ H ⟨rfl, hi, p⟩
  by_cases hlt : i < x.cps.size
  · refine .inr ⟨hlt, Pv (i + 1), fun σ' H' p' => ⟨x.cps.size - (i + 1), by omega, rfl, hlt, p'⟩, fun y H' w => ?_⟩
    obtain ⟨e, c, hc, ey⟩ := w
    subst e ey
    exact hs i c σ _ (by rw [Array.getElem?_toList]; exact hc) p
  · have e : i = x.cps.size := by omega
    subst e
    exact .inl ⟨Nat.le_refl _, hd σ H (by rw [hz]; exact p)⟩
def Asc (z : Str) : Prop := ∀ c ∈ z.cps.toList, c < 128
theorem Asc.add {a b : Str} (ha : Asc a) (hb : Asc b) : Asc (a ++ b) := fun c h => by
  have e : (a ++ b).cps.toList = a.cps.toList ++ b.cps.toList := Array.toList_append
  rw [e] at h
  rcases List.mem_append.mp h with h | h
  · exact ha c h
  · exact hb c h
theorem Asc.cut {a : Str} (ha : Asc a) (lo hi : Option Int) : Asc (cutS a lo hi) := fun c h => by
  have h' : c ∈ (a.cps.toList.drop (HT.sIx a.length 0 lo)).take (HT.sIx a.length a.length hi - HT.sIx a.length 0 lo) := h
  exact ha c (List.mem_of_mem_drop (List.mem_of_mem_take h'))
theorem str_of (l : List Nat) : (⟨l.toArray⟩ : Str).cps.toList = l := rfl
theorem str_ext {a b : Str} (h : a.cps.toList = b.cps.toList) : a = b := by
  cases a with
  | mk a => cases b with
    | mk b => exact congrArg Str.mk (Array.ext' h)
theorem len_cps (z : Str) : z.length = z.cps.toList.length := rfl
theorem add_nil (a : Str) : a ++ (⟨#[]⟩ : Str) = a := str_ext (by show (a.cps ++ #[]).toList = _; simp)
theorem nil_add (a : Str) : (⟨#[]⟩ : Str) ++ a = a := str_ext (by show (#[] ++ a.cps).toList = _; simp)
theorem cutS_to (z : Str) (k : Nat) : cutS z none (some (k : Int)) = ⟨(z.cps.toList.take k).toArray⟩ := by
  unfold cutS
  rw [HT.sIx_nat, HT.sIx_none, List.drop_zero, Nat.sub_zero]
  congr 2
  rcases Nat.le_total k z.length with h | h
  · rw [Nat.min_eq_left h]
  · rw [Nat.min_eq_right h, List.take_of_length_le (by rw [← len_cps]; exact Nat.le_refl _), List.take_of_length_le (by rw [← len_cps]; exact h)]
theorem cutS_from (z : Str) (k : Nat) : cutS z (some (k : Int)) none = ⟨(z.cps.toList.drop k).toArray⟩ := by
  unfold cutS
  rw [HT.sIx_nat, HT.sIx_none]
  congr 2
  rcases Nat.le_total k z.length with h | h
  · rw [Nat.min_eq_left h]; exact List.take_of_length_le (by rw [List.length_drop, ← len_cps]; exact Nat.le_refl _)
  · rw [Nat.min_eq_right h, Nat.sub_self, List.take_zero, List.drop_eq_nil_of_le (by rw [← len_cps]; exact h)]
theorem starts_cut (w y : Str) : Txt.startswith w y = decide (cutS w none (some (y.length : Int)) = y) := by
  have e : Builtin.Str.subAt w y 0 = decide (w.cps.toList.take y.length = y.cps.toList) := by
    unfold Builtin.Str.subAt
    rw [Bool.eq_iff_iff, beq_iff_eq, decide_eq_true_iff, ← Array.toList_inj]
    simp
  unfold Txt.startswith
  rw [e, cutS_to, Bool.eq_iff_iff, Bool.and_eq_true, decide_eq_true_iff, decide_eq_true_iff, decide_eq_true_iff]
  constructor
  · rintro ⟨_, h⟩
    exact str_ext h
  · intro h
    have h' : w.cps.toList.take y.length = y.cps.toList := congrArg (fun z : Str => z.cps.toList) h
    refine ⟨?_, h'⟩
    have := congrArg List.length h'
    rw [List.length_take, ← len_cps, ← len_cps] at this
    omega
theorem asc_dec {z : Str} (h : (z.cps.toList.all fun c => decide (c < 128)) = true) : Asc z := fun c hc => of_decide_eq_true (List.all_eq_true.mp h c hc)
theorem emp_iff {z : Str} : z = "" ↔ z.cps.toList = [] := by
  constructor
  · rintro rfl; decide +kernel
  · intro h
    exact str_ext (h.trans (by decide +kernel))
theorem ixCharA {z : Str} {c : Int} {Q : VK} {H : Hp} (h0 : 0 < z.length) (h1 : z.length ≤ 1000) (hA : Asc z) (q : ∀ y : Str, y.length = 1 → Asc y → Q (.str y) H) : (0 : Int) < z.length ∧ rIxS (.str z) (.int (c % (z.length : Int))) H Q := by
  refine ⟨by omega, ?_⟩
  obtain ⟨k, ek, hk⟩ : ∃ k : Nat, c % (z.length : Int) = (k : Int) ∧ k < z.length := ⟨(c % (z.length : Int)).toNat, by have := Int.emod_nonneg c (show (z.length : Int) ≠ 0 by omega); omega, by have := Int.emod_lt_of_pos c (show (0 : Int) < z.length by omega); have := Int.emod_nonneg c (show (z.length : Int) ≠ 0 by omega); omega⟩
  rw [ek]
  have hk' : k < z.cps.toList.length := hk
  refine ⟨z, _, z.cps.toList[k], rfl, rfl, small64 (by omega), atI_nat (List.getElem?_eq_getElem hk'), q _ rfl fun d hd => ?_⟩
  have e : d = z.cps.toList[k] := List.mem_singleton.mp hd
  rw [e]; exact hA _ (List.getElem_mem _)
theorem ixCharN {z : Str} {k : Nat} {Q : VK} {H : Hp} (hk : k < z.length) (h1 : z.length ≤ 1000) (hA : Asc z) (q : ∀ y : Str, y.length = 1 → Asc y → Q (.str y) H) : rIxS (.str z) (.int (k : Int)) H Q := by
  have hk' : k < z.cps.toList.length := hk
  refine ⟨z, _, z.cps.toList[k], rfl, rfl, small64 (by omega), atI_nat (List.getElem?_eq_getElem hk'), q _ rfl fun d hd => ?_⟩
  have e : d = z.cps.toList[k] := List.mem_singleton.mp hd
  rw [e]; exact hA _ (List.getElem_mem _)

/-! ### a comprehension over a text -/
theorem lc_str {x : Str} {g : TG} {tt : TT} {te : TE} {vs : List Nat} {σ : L2.St} {H1 : Hp} {D : Addr} {Qd : Hp → Prop} (Pv : Nat → Hp → Prop) (h0 : Pv 0 (upd H1 D (.lst [])))
    (hs : ∀ i c H, x.cps.toList[i]? = some c → Pv i H → g (.str ⟨#[c]⟩) (wipe σ vs) H fun σ2 H2 => wipe σ2 vs = wipe σ vs ∧ tt σ2 H2 fun b H3 =>
      if b = true then te σ2 H3 fun y H4 => ∃ acc, H4 D = some (.lst acc) ∧ acc.length < sizeLine ∧ Pv (i + 1) (upd H4 D (.lst (acc ++ [y]))) else Pv (i + 1) H3) (hd : ∀ H, Pv x.cps.toList.length H → Qd H) :
    ∃ W : Nat → Nat → Hp → Prop, (∃ m, W 0 m (upd H1 D (.lst []))) ∧ ∀ i m H, W i m H →
      ((Its x).stop i H ∧ Qd H) ∨ ((Its x).go i H ∧ ∃ Nx : Hp → Prop, (∀ H', Nx H' → ∃ m', m' < m ∧ W (i + 1) m' H') ∧ ∀ y H', (Its x).yld i H y H' → g y (wipe σ vs) H' fun σ2 H2 => wipe σ2 vs = wipe σ vs ∧ tt σ2 H2 fun b H3 =>
        if b = true then te σ2 H3 fun y H4 => ∃ acc, H4 D = some (.lst acc) ∧ acc.length < sizeLine ∧ Nx (upd H4 D (.lst (acc ++ [y]))) else Nx H3) := by
  have hz : x.cps.toList.length = x.cps.size := Array.length_toList
  refine ⟨fun i m H => m = x.cps.size - i ∧ i ≤ x.cps.size ∧ Pv i H, ⟨x.cps.size, by simp, Nat.zero_le _, h0⟩, ?_⟩
  rintro i m H ⟨rfl, hi, p⟩
  by_cases hlt : i < x.cps.size
  · refine .inr ⟨hlt, Pv (i + 1), fun H' p' => ⟨x.cps.size - (i + 1), by omega, rfl, hlt, p'⟩, fun y H' w => ?_⟩
    obtain ⟨e, c, hc, ey⟩ := w
    subst e ey
    exact hs i c _ (by rw [Array.getElem?_toList]; exact hc) p
  · have e : i = x.cps.size := by omega
    subst e
    exact .inl ⟨Nat.le_refl _, hd H (by rw [hz]; exact p)⟩
/-- [ord(c) for c in x] -/
theorem lc_ord {x : Str} {j : Nat} {te : TE} {σ : L2.St} {H1 : Hp} {D : Addr} {Qd : Hp → Prop} (hD : H1 D = none) (hn : x.cps.toList.length ≤ 100000)
    (hs : ∀ (c : Nat) H Q, Q (.int (c : Int)) H → te ((σ.set j none).set j (some (.str ⟨#[c]⟩))) H Q) (hd : ∀ H, Same H1 H → H D = some (.lst (x.cps.toList.map fun c => V.int ((c : Nat) : Int))) → Qd H) :
    ∃ W : Nat → Nat → Hp → Prop, (∃ m, W 0 m (upd H1 D (.lst []))) ∧ ∀ i m H, W i m H →
      ((Its x).stop i H ∧ Qd H) ∨ ((Its x).go i H ∧ ∃ Nx : Hp → Prop, (∀ H', Nx H' → ∃ m', m' < m ∧ W (i + 1) m' H') ∧ ∀ y H', (Its x).yld i H y H' → gName j y (wipe σ [j]) H' fun σ2 H2 => wipe σ2 [j] = wipe σ [j] ∧ tYes σ2 H2 fun b H3 =>
        if b = true then te σ2 H3 fun y H4 => ∃ acc, H4 D = some (.lst acc) ∧ acc.length < sizeLine ∧ Nx (upd H4 D (.lst (acc ++ [y]))) else Nx H3) := by
  refine lc_str (fun i H => Same H1 H ∧ H D = some (.lst ((x.cps.toList.take i).map fun c => V.int ((c : Nat) : Int)))) ⟨Same.new hD, upd_same⟩ (fun i c H hc h => ?_) (fun H h => hd H h.1 (by rw [h.2, List.take_length]))
  have hi : i < x.cps.toList.length := (List.getElem?_eq_some_iff.mp hc).1
  refine ⟨?_, ?_⟩
  · show (((σ.set j none).set j (some (V.str ⟨#[c]⟩))).set j none) = σ.set j none
    rw [List.set_set, List.set_set]
  · simp only [tYes, if_true]
    refine hs c H _ ⟨_, h.2, ?_, fun b o e => ?_, ?_⟩
    · rw [List.length_map, List.length_take]; exact small64' (by omega)
    · have nb : b ≠ D := fun z => by rw [z, hD] at e; cases e
      rw [upd_ne nb]; exact h.1 _ _ e
    · rw [upd_same, List.take_add_one, hc, List.map_append]; rfl

/-! ### numbers in groups of seven bits: what the defs compute -/
def wu (n : Int) : List Int := if h : n < 128 then [n] else (128 + n % 128) :: wu (n / 128)
termination_by n.toNat
decreasing_by omega
def ws (n : Int) : List Int := if h : -64 ≤ n ∧ n ≤ 63 then [n % 128] else (128 + n % 128) :: ws (n / 128)
termination_by n.natAbs
decreasing_by omega
theorem wu_len : ∀ (k : Nat) (n : Int), 0 ≤ n → n < 128 ^ k → (wu n).length ≤ max k 1
  | 0, n, h0, h => by
    have : n = 0 := by simp at h; omega
    subst this
    rw [wu, dif_pos (by decide)]; simp
  | k + 1, n, h0, h => by
    rw [wu]
    split
    · simp
    · have e : (128 : Int) ^ (k + 1) = 128 ^ k * 128 := Int.pow_succ 128 k
      have p : (0 : Int) < 128 ^ k := Int.pow_pos (by decide)
      have ih := wu_len k (n / 128) (by omega) (by omega)
      simp only [List.length_cons]
      have hk : k ≠ 0 := fun z => by subst z; simp at h; omega
      omega
theorem ws_len : ∀ (k : Nat) (n : Int), -(64 * 128 ^ k) ≤ n → n < 64 * 128 ^ k → (ws n).length ≤ k + 1
  | 0, n, h0, h => by
    rw [ws, dif_pos (by omega)]; simp
  | k + 1, n, h0, h => by
    rw [ws]
    split
    · simp
    · have e : (128 : Int) ^ (k + 1) = 128 ^ k * 128 := Int.pow_succ 128 k
      have p : (0 : Int) < 128 ^ k := Int.pow_pos (by decide)
      have ih := ws_len k (n / 128) (by omega) (by omega)
      simp only [List.length_cons]
      omega
theorem wu_bytes (n : Int) (h : 0 ≤ n) : ∀ b ∈ wu n, 0 ≤ b ∧ b ≤ 255 := by
  rw [wu]
  split
  · intro b hb
    rw [List.mem_singleton] at hb; omega
  · intro b hb
    rcases List.mem_cons.mp hb with rfl | hb
    · omega
    · exact wu_bytes (n / 128) (by omega) b hb
termination_by n.toNat
decreasing_by omega
theorem ws_bytes (n : Int) : ∀ b ∈ ws n, 0 ≤ b ∧ b ≤ 255 := by
  rw [ws]
  split
  · intro b hb
    rw [List.mem_singleton] at hb; omega
  · intro b hb
    rcases List.mem_cons.mp hb with rfl | hb
    · omega
    · exact ws_bytes (n / 128) b hb
termination_by n.natAbs
decreasing_by omega
abbrev ER (α : Type) := Except (Str × Nat) α
/-- the groups from the place p on, left bits left: the sum so far, the last byte, what is left, its place -/
def grp (xs : List Int) (e b : Nat) (p left : Nat) (low : Int) : ER (Int × Int × Nat × Nat) :=
  if e ≤ p then .error ("unexpected end", e)
  else if xs.getD p 0 < 128 then .ok (low, xs.getD p 0, left, p)
  else if h : left ≤ 7 then .error ("number too long", p)
  else grp xs e b (p + 1) (left - 7) (low + (xs.getD p 0 - 128) * 2 ^ (b - left))
termination_by left
decreasing_by omega
theorem grp_ok {xs : List Int} {e b : Nat} {p left : Nat} {low : Int} {r : Int × Int × Nat × Nat} (h : grp xs e b p left low = .ok r) (h1 : 1 ≤ left) :
    r.2.1 = xs.getD r.2.2.2 0 ∧ r.2.1 < 128 ∧ 1 ≤ r.2.2.1 ∧ r.2.2.1 ≤ left ∧ p ≤ r.2.2.2 ∧ r.2.2.2 < e := by
  rw [grp] at h
  split at h
  · cases h
  · split at h
    · cases h
      rename_i a b
      exact ⟨rfl, b, h1, Nat.le_refl _, Nat.le_refl _, by show p < e; omega⟩
    · split at h
      · cases h
      · have ih := grp_ok h (by omega)
        exact ⟨ih.1, ih.2.1, ih.2.2.1, by omega, by omega, ih.2.2.2.2.2⟩
termination_by left
decreasing_by omega
def rdU (xs : List Int) (p e b : Nat) : ER (Int × Nat) :=
  match grp xs e b p b 0 with
  | .error r => .error r
  | .ok (lo, by_, l, q) => if l < 7 ∧ by_ ≥ 2 ^ l then .error ("number too large", q) else .ok (lo + by_ * 2 ^ (b - l), q + 1)
def tos (x : Int) : Int := if x ≥ 64 then x - 128 else x
def rdS (xs : List Int) (p e b : Nat) : ER (Int × Nat) :=
  match grp xs e b p b 0 with
  | .error r => .error r
  | .ok (lo, by_, l, q) => if tos by_ < -(2 ^ (l - 1)) ∨ tos by_ ≥ 2 ^ (l - 1) then .error ("number too large", q) else .ok (lo + tos by_ * 2 ^ (b - l), q + 1)
/-! ### promises -/
def Bys (xs : List Int) : Prop := ∀ x ∈ xs, 0 ≤ x ∧ x ≤ 255
theorem bys_nil : Bys [] := fun _ h => nomatch h
theorem Bys.at {xs : List Int} (h : Bys xs) (k : Nat) : 0 ≤ xs.getD k 0 ∧ xs.getD k 0 ≤ 255 := by
  rw [List.getD_eq_getElem?_getD]
  cases e : xs[k]? with
  | none => exact ⟨by decide, by decide⟩
  | some v => exact h v (List.mem_of_getElem? e)
/-- a DecodeError flies; all that was tracked stands -/
def Dec (cs : Cs) (H : Hp) (E : XK) (r : Str) (n : Nat) : Prop := ∀ d Hf, Same H Hf → Hf d = some (.xd [("place", .int n), ("reason", .str r)]) → E (.ref cs.C_DecodeError) (some d) Hf
theorem Dec.of {cs : Cs} {H H1 : Hp} {E : XK} {r : Str} {n : Nat} (h : Dec cs H E r n) (s : Same H H1) : Dec cs H1 E r n := fun d Hf s2 e => h d Hf (s.trans s2) e
/-- a new tuple of these -/
def Tup (H : Hp) (Q : VK) (vs : List V) : Prop := ∀ t Hf, Same H Hf → Hf t = some (.tup vs) → Q (.ref t) Hf
theorem Tup.of {H H1 : Hp} {Q : VK} {vs : List V} (h : Tup H Q vs) (s : Same H H1) : Tup H1 Q vs := fun t Hf s2 e => h t Hf (s.trans s2) e
/-- a new list of these ints -/
def Lst (H : Hp) (Q : VK) (ns : List Int) : Prop := ∀ p Hf, Same H Hf → H p = none → Hf p = some (.lst (ns.map V.int)) → Q (.ref p) Hf
def sp_write_unsigned (K : PySem.W.Frag) (cs : Cs) : Sp := fun vs H Q _ => ∃ n : Int, vs = [.int n] ∧ 0 ≤ n ∧ n < 128 ^ 20 ∧ Lst H Q (wu n)
def sp_write_signed (K : PySem.W.Frag) (cs : Cs) : Sp := fun vs H Q _ => ∃ n : Int, vs = [.int n] ∧ -(64 * 128 ^ 20) ≤ n ∧ n < 64 * 128 ^ 20 ∧ Lst H Q (ws n)
def sp_byte_at (K : PySem.W.Frag) (cs : Cs) : Sp := fun vs H Q E => ∃ (a : Addr) (xs : List Int) (p e : Nat), vs = [.ref a, .int p, .int e] ∧ SqL K H a (xs.map V.int) ∧ e ≤ xs.length ∧
  (p < e → Q (.int (xs.getD p 0)) H) ∧ (e ≤ p → Dec cs H E "unexpected end" e)
def sp_read_groups (K : PySem.W.Frag) (cs : Cs) : Sp := fun vs H Q E => ∃ (a : Addr) (xs : List Int) (p e b : Nat), vs = [.ref a, .int p, .int e, .int b] ∧ SqL K H a (xs.map V.int) ∧ Bys xs ∧ e ≤ xs.length ∧ 1 ≤ b ∧ b ≤ 64 ∧
  (∀ r, grp xs e b p b 0 = .error r → Dec cs H E r.1 r.2) ∧ (∀ r, grp xs e b p b 0 = .ok r → Tup H Q [.int r.1, .int r.2.1, .int r.2.2.1, .int r.2.2.2])
def spRd (f : List Int → Nat → Nat → Nat → ER (Int × Nat)) (K : PySem.W.Frag) (cs : Cs) : Sp := fun vs H Q E => ∃ (a : Addr) (xs : List Int) (p e b : Nat), vs = [.ref a, .int p, .int e, .int b] ∧ SqL K H a (xs.map V.int) ∧ Bys xs ∧ e ≤ xs.length ∧ 1 ≤ b ∧ b ≤ 64 ∧
  (∀ r, f xs p e b = .error r → Dec cs H E r.1 r.2) ∧ (∀ r, f xs p e b = .ok r → Tup H Q [.int r.1, .int r.2])
def sp_read_unsigned (K : PySem.W.Frag) (cs : Cs) : Sp := spRd rdU K cs
def sp_read_signed (K : PySem.W.Frag) (cs : Cs) : Sp := spRd rdS K cs
section
variable {P : Program} {w : World} {K : PySem.W.Frag} {mg : Str → Option Value} {base : Heap} {cs : Cs}
theorem c_write_unsigned (D : Def K mg "write_unsigned" s_write_unsigned ["number"]) (T : Tp w K mg cs)  : Cal P w K mg base CX0 1 "write_unsigned" (sp_write_unsigned K cs) := by
  refine D.ok sc_write_unsigned (fun vs H Q E h => ?_) (fun f cdv A outer s H vs Q E hr h => ?_)
  · obtain ⟨n, rfl, _⟩ := h; rfl
  · obtain ⟨n, rfl, h0, h1, q⟩ := h
    refine ⟨_, (pss_cons (ps_set (i := 1) sc_write_unsigned.nd rfl (by first | exact Or.inl rfl | exact Or.inr rfl) (pe_lst pa_nil))
      (pss_cons (ps_while PassesOwn.never (pt_cmpR op_ge (pv 0) pe_int (by first | rfl | exact nomark _)) (pss_cons (ps_expr (pe_bm PySem.F.plainAttrs_list PySem.F.slot_list_append PySem.F.type_list_append mt_append (pv 1) (pa_cons (pe_op op_add pe_int (pe_op op_and (pv 0) pe_int)) pa_nil)))
      (pss_one (ps_set (i := 0) sc_write_unsigned.nd rfl (by first | exact Or.inl rfl | exact Or.inr rfl) (pe_op op_shr (pv 0) pe_int)))))
      (pss_cons (ps_expr (pe_bm PySem.F.plainAttrs_list PySem.F.slot_list_append PySem.F.type_list_append mt_append (pv 1) (pa_cons (pv 0) pa_nil)))
      (pss_one (ps_ret (pv 1)))))), ?_⟩
    refine ⟨Nat.zero_le _, fun p hp => ?_⟩
    have hlen : (wu n).length ≤ 20 := wu_len 20 n h0 h1
    refine while_ev (fun σ H2 => ∃ (m : Int) (acc : List Int), σ = [some (.int m), some (.ref p)] ∧ 0 ≤ m ∧ acc ++ wu m = wu n ∧ Same H H2 ∧ H2 p = some (.lst (acc.map V.int)))
      (fun σ _ => match σ with | [some (.int m), _] => m.toNat | _ => 0) ⟨n, [], rfl, h0, rfl, Same.new hp, upd_same⟩ ?_
    rintro _ H2 ⟨m, acc, rfl, hm, ha, s2, hl⟩
    refine ⟨decide (128 ≤ m), fun Q2 q2 => by walk_at "go"; exact q2, fun c => ?_, fun c => ?_⟩
    · have c' : 128 ≤ m := of_decide_eq_true c
      have e1 : wu m = (128 + m % 128) :: wu (m / 128) := by rw [wu, dif_neg (by omega)]
      have hla : acc.length < 20 := by rw [← ha, List.length_append, e1, List.length_cons] at hlen; omega
      refine ⟨_, rfl, .inl ⟨rfl, _, SqL.of hl⟩, ?_⟩
      walk_at "go"
      refine ⟨_, _, _, rfl, rfl, hl, (by rw [List.length_map]; exact small64' (by omega)), ?_⟩
      walk_at "go"
      rw [show Builtin.bitAnd m 127 = m % 128 from PySem.W.kbt_mask m 7]
      refine ⟨⟨m / 128, acc ++ [128 + m % 128], rfl, by omega, by rw [List.append_assoc]; show acc ++ ((128 + m % 128) :: wu (m / 128)) = _; rw [← e1]; exact ha, fun b o e => ?_, ?_⟩, ?_⟩
      · rw [upd_ne (ne_of_none e hp)]; exact s2 _ _ e
      · rw [upd_same, List.map_append]; rfl
      · show (m / 128).toNat < m.toNat
        omega
    · have c' : ¬ 128 ≤ m := of_decide_eq_false c
      have e1 : wu m = [m] := by rw [wu, dif_pos (by omega)]
      have hla : acc.length < 20 := by rw [← ha, List.length_append, e1, List.length_singleton] at hlen; omega
      refine ⟨_, rfl, .inl ⟨rfl, _, SqL.of hl⟩, ?_⟩
      walk_at "go"
      refine ⟨_, _, _, rfl, rfl, hl, (by rw [List.length_map]; exact small64' (by omega)), ?_⟩
      walk_at "go"
      refine q p _ (fun b o e => ?_) hp ?_
      · rw [upd_ne (ne_of_none e hp)]; exact s2 _ _ e
      · rw [upd_same, ← ha, e1, List.map_append]; rfl
theorem c_byte_at (D : Def K mg "byte_at" s_byte_at ["data", "place", "end"]) (T : Tp w K mg cs)  : Cal P w K mg base (L2.CX P w) 3 "byte_at" (sp_byte_at K cs) := by
  refine D.okX sc_byte_at (fun vs H Q E h => ?_) (fun f cdv A outer s H vs Q E hr h => ?_)
  · obtain ⟨a, xs, p, e, rfl, _⟩ := h; rfl
  · obtain ⟨a, xs, p, e, rfl, hS, he, q1, q2⟩ := h
    refine ⟨_, (pss_cons (ps_if (pt_cmpR op_ge (pv 1) (pv 2) (by first | rfl | exact nomark _)) (pss_one (ps_raise rfl (takes_of rfl rfl rfl rfl) (pmk_oex T.e_DecodeError.T T.iC_DecodeError T.tI_DecodeError (in_DecodeError T) (hr.mono (by decide)) T.b_DecodeError .nil pass0 (by rfl) T.e_DecodeError.g (pa_cons pe_str (pa_cons (pv 2) pa_nil))))) pss_nil)
      (pss_one (ps_ret (pe_ix ix_list (pv 0) (pv 1) (fun _ _ => rfl))))), ?_⟩
    walk_at "go"
    refine ite2 (fun c => ?_) (fun c => ?_)
    · have c' : e ≤ p := by have := of_decide_eq_true c; omega
      walk_at "go"
      exact fly2 fun d Hf s1 e1 => q2 c' d Hf s1 e1
    · have c' : p < e := by have := of_decide_eq_false (Bool.eq_false_iff.mpr c); omega
      have hp : p < xs.length := by omega
      walk_at "go"
      exact q1 c'
theorem c_read_groups (D : Def K mg "read_groups" s_read_groups ["data", "place", "end", "bits"]) (T : Tp w K mg cs) (c_byte_at : Cal P w K mg base (L2.CX P w) 3 "byte_at" (sp_byte_at K cs)) : Cal P w K mg base (L2.CX P w) 4 "read_groups" (sp_read_groups K cs) := by
  refine D.okX sc_read_groups (fun vs H Q E h => ?_) (fun f cdv A outer s H vs Q E hr h => ?_)
  · obtain ⟨a, xs, p, e, b, rfl, _⟩ := h; rfl
  · obtain ⟨a, xs, p, e, b, rfl, hS, hB, he, hb1, hb2, q1, q2⟩ := h
    refine ⟨_, (pss_cons (ps_set (i := 4) sc_read_groups.nd rfl (by first | exact Or.inl rfl | exact Or.inr rfl) pe_int)
      (pss_cons (ps_set (i := 5) sc_read_groups.nd rfl (by first | exact Or.inl rfl | exact Or.inr rfl) (pv 3))
      (pss_cons (ps_set (i := 6) sc_read_groups.nd rfl (by first | exact Or.inl rfl | exact Or.inr rfl) (pe_cE c_byte_at hr (by decide) (passes_call (takes_of rfl rfl rfl rfl) (fun _ _ _ _ h => h)) (by rfl) (pa_cons (pv 0) (pa_cons (pv 1) (pa_cons (pv 2) pa_nil)))))
      (pss_cons (ps_while (passes_of rfl) (pt_cmpR op_ge (pv 6) pe_int (by first | rfl | exact nomark _)) (pss_cons (ps_if (pt_cmpR op_le (pv 5) pe_int (by first | rfl | exact nomark _)) (pss_one (ps_raise rfl (takes_of rfl rfl rfl rfl) (pmk_oex T.e_DecodeError.T T.iC_DecodeError T.tI_DecodeError (in_DecodeError T) (hr.mono (by decide)) T.b_DecodeError .nil pass0 (by rfl) T.e_DecodeError.g (pa_cons pe_str (pa_cons (pv 1) pa_nil))))) pss_nil)
      (pss_cons (ps_set (i := 4) sc_read_groups.nd rfl (by first | exact Or.inl rfl | exact Or.inr rfl) (pe_op op_add (pv 4) (pe_op op_shlS (pe_op op_sub (pv 6) pe_int) (pe_op op_sub (pv 3) (pv 5)))))
      (pss_cons (ps_set (i := 5) sc_read_groups.nd rfl (by first | exact Or.inl rfl | exact Or.inr rfl) (pe_op op_sub (pv 5) pe_int))
      (pss_cons (ps_set (i := 1) sc_read_groups.nd rfl (by first | exact Or.inl rfl | exact Or.inr rfl) (pe_op op_add (pv 1) pe_int))
      (pss_one (ps_set (i := 6) sc_read_groups.nd rfl (by first | exact Or.inl rfl | exact Or.inr rfl) (pe_cE c_byte_at hr (by decide) (passes_call (takes_of rfl rfl rfl rfl) (fun _ _ _ _ h => h)) (by rfl) (pa_cons (pv 0) (pa_cons (pv 1) (pa_cons (pv 2) pa_nil)))))))))))
      (pss_one (ps_ret (pe_tup (pa_cons (pv 4) (pa_cons (pv 6) (pa_cons (pv 5) (pa_cons (pv 1) pa_nil))))))))))), ?_⟩
    walk_at "go"
    refine ⟨a, xs, p, e, rfl, hS, he, fun hp => ?_, fun hp => ?_⟩
    · refine while_ev (fun σ H2 => H2 = H ∧ ∃ (low : Int) (left p2 : Nat), σ = [some (.ref a), some (.int p2), some (.int e), some (.int b), some (.int low), some (.int left), some (.int (xs.getD p2 0))] ∧ 1 ≤ left ∧ left ≤ b ∧ p2 < e ∧ grp xs e b p b 0 = grp xs e b p2 left low)
        (fun σ _ => match σ with | [_, _, _, _, _, some (.int l), _] => l.toNat | _ => 0) ⟨rfl, 0, b, p, rfl, hb1, Nat.le_refl _, hp, rfl⟩ ?_
      rintro _ _ ⟨rfl, low, left, p2, rfl, hl1, hl2, hp2, hg⟩
      have hby := hB.at p2
      refine ⟨decide (128 ≤ xs.getD p2 0), fun Q2 q2 => by walk_at "go"; exact q2, fun c => ?_, fun c => ?_⟩
      · have c' : 128 ≤ xs.getD p2 0 := of_decide_eq_true c
        walk_at "go"
        refine ite2 (fun d => ?_) (fun d => ?_)
        · have d' : left ≤ 7 := by have := of_decide_eq_true d; omega
          have ee : grp xs e b p b 0 = .error ("number too long", p2) := by
            rw [hg, grp, if_neg (by omega), if_neg (by omega), dif_pos d']
          walk_at "go"
          exact fly2 fun dd Hf s1 e1 => q1 _ ee dd Hf s1 e1
        · have d' : ¬ left ≤ 7 := by have := of_decide_eq_false (Bool.eq_false_iff.mpr d); omega
          have ee : grp xs e b p b 0 = grp xs e b (p2 + 1) (left - 7) (low + (xs.getD p2 0 - 128) * 2 ^ (b - left)) := by
            rw [hg, grp, if_neg (by omega), if_neg (by omega), dif_neg d']
          have en : ((b : Int) - (left : Int)).toNat = b - left := by omega
          walk_at "go"
          refine ⟨⟨nat_small (by omega), by omega, by omega⟩, ?_⟩
          walk_at "go"
          refine ⟨a, xs, p2 + 1, e, by rfl, hS, he, fun hp3 => ?_, fun hp3 => ?_⟩
          · refine ⟨⟨rfl, _, left - 7, p2 + 1, ?_, by omega, by omega, hp3, ee⟩, ?_⟩
            · rw [show ((left - 7 : Nat) : Int) = (left : Int) - 7 by omega]
              simp only [en]
              rfl
            · show ((left : Int) - 7).toNat < (left : Int).toNat
              omega
          · have e4 : grp xs e b p b 0 = .error ("unexpected end", e) := by
              rw [ee, grp, if_pos hp3]
            exact fun dd Hf s1 e1 => q1 _ e4 dd Hf s1 e1
      · have c' : ¬ 128 ≤ xs.getD p2 0 := of_decide_eq_false c
        have ee : grp xs e b p b 0 = .ok (low, xs.getD p2 0, left, p2) := by
          rw [hg, grp, if_neg (by omega), if_pos (by omega)]
        walk_at "go"
        try refine And.intro (show 4 ≤ sizeLine by decide) ?_
        intro t ht
        exact q2 _ ee t _ (Same.new ht) upd_same
    · have e4 : grp xs e b p b 0 = .error ("unexpected end", e) := by rw [grp, if_pos hp]
      exact fun dd Hf s1 e1 => q1 _ e4 dd Hf s1 e1
theorem c_read_unsigned (D : Def K mg "read_unsigned" s_read_unsigned ["data", "place", "end", "bits"]) (T : Tp w K mg cs) (c_read_groups : Cal P w K mg base (L2.CX P w) 4 "read_groups" (sp_read_groups K cs)) : Cal P w K mg base (L2.CX P w) 5 "read_unsigned" (sp_read_unsigned K cs) := by
  refine D.okX sc_read_unsigned (fun vs H Q E h => ?_) (fun f cdv A outer s H vs Q E hr h => ?_)
  · obtain ⟨a, xs, p, e, b, rfl, _⟩ := h; rfl
  · obtain ⟨a, xs, p, e, b, rfl, hS, hB, he, hb1, hb2, q1, q2⟩ := h
    refine ⟨_, (pss_cons (ps_asg (pe_cE c_read_groups hr (by decide) (passes_call (takes_of rfl rfl rfl rfl) (fun _ _ _ _ h => h)) (by rfl) (pa_cons (pv 0) (pa_cons (pv 1) (pa_cons (pv 2) (pa_cons (pv 3) pa_nil))))) (pg_tup (by rfl) (pgs_cons (pg_name (i := 4) sc_read_unsigned.nd rfl (by first | exact Or.inl rfl | exact Or.inr rfl)) (pgs_cons (pg_name (i := 5) sc_read_unsigned.nd rfl (by first | exact Or.inl rfl | exact Or.inr rfl)) (pgs_cons (pg_name (i := 6) sc_read_unsigned.nd rfl (by first | exact Or.inl rfl | exact Or.inr rfl)) (pgs_cons (pg_name (i := 1) sc_read_unsigned.nd rfl (by first | exact Or.inl rfl | exact Or.inr rfl)) pgs_nil))))))
      (C8.pss_cut (ps_if (PW.pt (pw_and (pt_cmpR op_lt (pv 6) pe_int (by first | rfl | exact nomark _)) (pw_and1 (pt_cmpR op_ge (pv 5) (pe_op op_shl1 pe_int (pv 6)) (by first | rfl | exact nomark _))))) (pss_one (ps_raise rfl (takes_of rfl rfl rfl rfl) (pmk_oex T.e_DecodeError.T T.iC_DecodeError T.tI_DecodeError (in_DecodeError T) (hr.mono (by decide)) T.b_DecodeError .nil pass0 (by rfl) T.e_DecodeError.g (pa_cons pe_str (pa_cons (pv 1) pa_nil))))) pss_nil)
      (pss_one (ps_ret (pe_tup (pa_cons (pe_op op_add (pv 4) (pe_op op_shlS (pv 5) (pe_op op_sub (pv 3) (pv 6)))) (pa_cons (pe_op op_add (pv 1) pe_int) pa_nil))))))), ?_⟩
    walk_at "go"
    refine ⟨a, xs, p, e, b, rfl, hS, hB, he, hb1, hb2, fun r hr => ?_, fun r hr => ?_⟩
    · exact q1 r (by unfold rdU; rw [hr])
    obtain ⟨lo, by_, l, p2⟩ := r
    obtain ⟨k1, k2, k3, k4, k5, k6⟩ := grp_ok hr hb1
    dsimp only at k1 k2 k3 k4 k5 k6
    have hby := hB.at p2
    rw [← k1] at hby
    intro t Hf s1 ht
    have hT : SqT K Hf t [.int lo, .int by_, .int l, .int p2] := SqT.of ht
    refine ⟨t, _, rfl, hT, rfl, ?_⟩
    walk_at "go"
    have el : ((l : Nat) : Int).toNat = l := Int.toNat_natCast l
    have eb : ((b : Int) - (l : Int)).toNat = b - l := by omega
    refine ⟨fun σ H2 => ¬ (l < 7 ∧ by_ ≥ 2 ^ l) ∧ Hf = H2 ∧ σ = [some (.ref a), some (.int p2), some (.int e), some (.int b), some (.int lo), some (.int by_), some (.int l)], ?_, ?_⟩
    · walk_at "go"
      refine ite2 (fun c => ?_) (fun c => ?_)
      · have c1 : (l : Int) < 7 := of_decide_eq_true c
        walk_at "go"
        simp only [el]
        refine ite2 (fun c => ?_) (fun c => ?_)
        · have c2 : by_ ≥ 2 ^ l := of_decide_eq_true c
          have ee : rdU xs p e b = .error ("number too large", p2) := by unfold rdU; rw [hr]; exact if_pos ⟨by omega, c2⟩
          walk_at "go"
          exact fly2 fun dd Hf2 s2 e2 => q1 _ ee dd Hf2 (s1.trans s2) e2
        · have c2 : ¬ by_ ≥ 2 ^ l := of_decide_eq_false (Bool.eq_false_iff.mpr c)
          exact ⟨fun z => c2 z.2, rfl, rfl⟩
      · have c1 : ¬ (l : Int) < 7 := of_decide_eq_false (Bool.eq_false_iff.mpr c)
        refine iteF ?_
        exact ⟨fun z => c1 (by omega), rfl, rfl⟩
    rintro _ _ ⟨c', rfl, rfl⟩
    have ee : rdU xs p e b = .ok (lo + by_ * 2 ^ (b - l), p2 + 1) := by unfold rdU; rw [hr]; exact if_neg c'
    walk_at "go"
    refine ⟨⟨nat_small (by omega), by omega, by omega⟩, ?_⟩
    walk_at "go"
    try refine And.intro (show 2 ≤ sizeLine by decide) ?_
    intro u hu
    simp only [eb]
    exact q2 _ ee u _ (s1.trans (Same.new hu)) upd_same
end

/-! ### names in files -/
def nthC (k : Nat) : Int := if k < 5 then 32 + k else 33 + k
def chOk (c : Int) : Bool := (decide (32 ≤ c) && decide (c ≤ 36)) || (decide (38 ≤ c) && decide (c ≤ 126))
def ch (c : Int) : Str := ⟨#[c.toNat]⟩
def rdC (xs : List Int) (p e : Nat) : ER Int := if e ≤ p then .error ("unexpected end", e) else if chOk (xs.getD p 0) = true then .ok (xs.getD p 0) else .error ("invalid name character", p)
def rdCs (xs : List Int) (e : Nat) : Nat → Nat → List Int → ER (List Int × Nat)
  | 0, p, acc => .ok (acc, p)
  | n + 1, p, acc => match rdC xs p e with
    | .error r => .error r
    | .ok c => rdCs xs e n (p + 1) (acc ++ [c])
def rdN (xs : List Int) (p e : Nat) : ER (List Int × Nat) := match rdU xs p e 32 with
  | .error r => .error r
  | .ok (c, q) => if 60 < c then .error ("name too long", q) else rdCs xs e c.toNat q []
def txtOf (ks : List Int) : Str := ⟨(ks.map Int.toNat).toArray⟩
def erN : ER (List Int × Nat) → List V
  | .error (r, n) => [.str r, .int n]
  | .ok (ks, p) => [.str (txtOf ks), .int p]
theorem low_at : ∀ k < 5, (" !\"#$" : Str).cps.toList[k]? = some (32 + k) := by decide +kernel
theorem high_at : ∀ k < 89, ("&'()*+,-./0123456789:;<=>?@ABCDEFGHIJKLMNOPQRSTUVWXYZ[\\]^_`abcdefghijklmnopqrstuvwxyz{|}~" : Str).cps.toList[k]? = some (38 + k) := by decide +kernel
theorem law_at : ∀ k < 94, (" !\"#$&'()*+,-./0123456789:;<=>?@ABCDEFGHIJKLMNOPQRSTUVWXYZ[\\]^_`" ++ "abcdefghijklmnopqrstuvwxyz{|}~" : Str).cps.toList[k]? = some (if k < 5 then 32 + k else 33 + k) := by decide +kernel
theorem txt_ints {ks : List Int} (h : ∀ k ∈ ks, 0 ≤ k) : ((txtOf ks).cps.toList.map fun c => V.int ((c : Nat) : Int)) = ks.map V.int := by
  show (ks.map Int.toNat).map (fun c => V.int ((c : Nat) : Int)) = _
  rw [List.map_map]
  refine List.map_congr_left fun k hk => ?_
  show V.int ((k.toNat : Nat) : Int) = V.int k
  rw [show ((k.toNat : Nat) : Int) = k by have := h k hk; omega]
theorem txt_len (ks : List Int) : (txtOf ks).length = ks.length := by show (ks.map Int.toNat).toArray.size = _; simp
theorem chOk_rng {c : Int} (h : chOk c = true) : 32 ≤ c ∧ c ≤ 126 := by
  unfold chOk at h; simp at h; omega
theorem nthC_ok : ∀ k < 94, chOk (nthC k) = true := by decide +kernel
theorem app_cps (a b : Str) : (a ++ b).cps.toList = a.cps.toList ++ b.cps.toList := Array.toList_append
theorem join0 : ∀ ys : List Str, (PySem.Str.join "" ys).cps.toList = ys.flatMap fun y => y.cps.toList
  | [] => rfl
  | [x] => by show x.cps.toList = x.cps.toList ++ []; rw [List.append_nil]
  | x :: y :: r => by
    show (x ++ "" ++ PySem.Str.join "" (y :: r)).cps.toList = x.cps.toList ++ (y :: r).flatMap fun y => y.cps.toList
    rw [app_cps, app_cps, join0 (y :: r), show ("" : Str).cps.toList = [] by decide +kernel, List.append_nil]
theorem flat_ch : ∀ ks : List Int, (ks.flatMap fun c => (ch c).cps.toList) = ks.map Int.toNat
  | [] => rfl
  | k :: r => by rw [List.flatMap_cons, flat_ch r]; rfl
theorem join_ch (ks : List Int) : Txt.join "" (ks.map ch) = txtOf ks := by
  refine str_ext ?_
  show (Builtin.Str.glued "" _).cps.toList = ks.map Int.toNat
  rw [PySem.StrLaws.glued_eq_join, join0, List.flatMap_map, flat_ch]
theorem sum_ch : ∀ ks : List Int, (List.map (fun x : Str => x.length) (ks.map ch)).sum = ks.length
  | [] => rfl
  | k :: r => by
    rw [List.map_cons, List.map_cons, List.sum_cons, sum_ch r, List.length_cons, show (ch k).length = 1 from rfl]; omega
theorem rdCs_len {xs : List Int} {e : Nat} : ∀ {n p : Nat} {acc ks : List Int} {q : Nat}, rdCs xs e n p acc = .ok (ks, q) → ks.length = acc.length + n
  | 0, p, acc, ks, q, h => by
    rw [rdCs] at h; cases h; rfl
  | n + 1, p, acc, ks, q, h => by
    rw [rdCs] at h
    split at h
    · cases h
    · have := rdCs_len h
      rw [List.length_append, List.length_singleton] at this
      omega
theorem grp_nn {xs : List Int} {e b : Nat} (hB : Bys xs) {p left : Nat} {low : Int} {r : Int × Int × Nat × Nat} (h : grp xs e b p left low = .ok r) (h0 : 0 ≤ low) : 0 ≤ r.1 ∧ 0 ≤ r.2.1 := by
  rw [grp] at h
  split at h
  · cases h
  · split at h
    · cases h
      exact ⟨h0, (hB.at p).1⟩
    · split at h
      · cases h
      · rename_i c1 c2
        refine grp_nn hB h ?_
        have : 0 ≤ (xs.getD p 0 - 128) * 2 ^ (b - left) := Int.mul_nonneg (by omega) (Int.le_of_lt (Int.pow_pos (by decide)))
        omega
termination_by left
decreasing_by omega
theorem rdU_nn {xs : List Int} {p e b : Nat} {c : Int} {q : Nat} (hB : Bys xs) (h : rdU xs p e b = .ok (c, q)) : 0 ≤ c := by
  unfold rdU at h
  split at h
  · cases h
  · rename_i lo by_ l q' hg
    have hn := grp_nn hB hg (Int.le_refl 0)
    split at h
    · cases h
    · cases h
      have : 0 ≤ by_ * 2 ^ (b - l) := Int.mul_nonneg hn.2 (Int.le_of_lt (Int.pow_pos (by decide)))
      have := hn.1
      omega
theorem rdU_e0 {xs : List Int} {p e : Nat} (h : e ≤ p) : rdU xs p e 32 = .error ("unexpected end", e) := by
  unfold rdU; rw [grp, if_pos h]
theorem rdU_1 {xs : List Int} {p e : Nat} (h : ¬ e ≤ p) (h1 : xs.getD p 0 < 128) : rdU xs p e 32 = .ok (xs.getD p 0, p + 1) := by
  unfold rdU; rw [grp, if_neg h, if_pos h1]
  simp
theorem rdU_e1 {xs : List Int} {p e : Nat} (h : ¬ e ≤ p) (h1 : ¬ xs.getD p 0 < 128) (h2 : e ≤ p + 1) : rdU xs p e 32 = .error ("unexpected end", e) := by
  unfold rdU; rw [grp, if_neg h, if_neg h1, dif_neg (by decide), grp, if_pos h2]
theorem rdU_2 {xs : List Int} {p e : Nat} (h : ¬ e ≤ p) (h1 : ¬ xs.getD p 0 < 128) (h2 : ¬ e ≤ p + 1) (h3 : xs.getD (p + 1) 0 < 128) : rdU xs p e 32 = .ok (xs.getD p 0 - 128 + 128 * xs.getD (p + 1) 0, p + 1 + 1) := by
  unfold rdU; rw [grp, if_neg h, if_neg h1, dif_neg (by decide), grp, if_neg h2, if_pos h3]
  simp
  omega
theorem grp_err {xs : List Int} {e b : Nat} : ∀ {p left : Nat} {low : Int} {r : Str × Nat}, grp xs e b p left low = .error r → r.1 = "unexpected end" ∨ r.1 = "number too long" := by
  intro p left
  induction left using Nat.strongRecOn generalizing p with
  | ind left ih =>
    intro low r h
    rw [grp] at h
    split at h
    · cases h; exact .inl rfl
    · split at h
      · cases h
      · split at h
        · cases h; exact .inr rfl
        · exact ih _ (by omega) h
def OkS (z : Str) : Prop := PyData.strOk z = true
theorem okS_txt {ks : List Int} (h : ∀ k ∈ ks, chOk k = true) : OkS (txtOf ks) := by
  unfold OkS PyData.strOk txtOf
  rw [List.all_toArray, List.all_eq_true]
  intro c hc
  obtain ⟨k, hk, rfl⟩ := List.mem_map.mp hc
  have := chOk_rng (h k hk)
  exact decide_eq_true (by omega)
theorem rdU_err {xs : List Int} {p e : Nat} {r : Str × Nat} (h : rdU xs p e 32 = .error r) : OkS r.1 := by
  unfold rdU at h
  split at h
  · rename_i r' hg
    cases h
    rcases grp_err hg with z | z <;> (rw [z]; unfold OkS; decide +kernel)
  · split at h
    · cases h
      show PyData.strOk "number too large" = true
      decide +kernel
    · cases h
theorem rdCs_ok {xs : List Int} {e : Nat} : ∀ {n p : Nat} {acc : List Int}, (∀ k ∈ acc, chOk k = true) → (∃ z m, rdCs xs e n p acc = .error (z, m) ∧ OkS z) ∨ ∃ ks q, rdCs xs e n p acc = .ok (ks, q) ∧ ∀ k ∈ ks, chOk k = true
  | 0, p, acc, h => .inr ⟨acc, p, rfl, h⟩
  | n + 1, p, acc, h => by
    rw [rdCs]
    unfold rdC
    by_cases h1 : e ≤ p
    · rw [if_pos h1]
      exact .inl ⟨_, _, rfl, by unfold OkS; decide +kernel⟩
    · rw [if_neg h1]
      by_cases h2 : chOk (xs.getD p 0) = true
      · rw [if_pos h2]
        refine rdCs_ok fun k hk => ?_
        rcases List.mem_append.mp hk with hk | hk
        · exact h k hk
        · rw [List.mem_singleton.mp hk]; exact h2
      · rw [if_neg h2]
        exact .inl ⟨_, _, rfl, by unfold OkS; decide +kernel⟩
theorem rdN_ok (xs : List Int) (p e : Nat) : ∃ (z : Str) (n : Nat), erN (rdN xs p e) = [.str z, .int (n : Int)] ∧ OkS z := by
  unfold rdN
  cases h : rdU xs p e 32 with
  | error r => exact ⟨r.1, r.2, rfl, rdU_err h⟩
  | ok r =>
    obtain ⟨c, q⟩ := r
    dsimp only
    split
    · exact ⟨_, _, rfl, by unfold OkS; decide +kernel⟩
    · rcases rdCs_ok (xs := xs) (e := e) (n := c.toNat) (p := q) (acc := []) (fun _ z => nomatch z) with ⟨z, m, e1, hz⟩ | ⟨ks, q', e1, hk⟩
      · rw [e1]; exact ⟨z, m, rfl, hz⟩
      · rw [e1]; exact ⟨_, q', rfl, okS_txt hk⟩
theorem shaped_si (z : Str) (n : Int) (h : OkS z) : SeqAt.shaped (.tuple [.str z, .int n]) = true := by
  unfold SeqAt.shaped
  rw [Bool.and_eq_true]
  refine ⟨?_, decide_eq_true ?_⟩
  · simp only [PyData.canLay0, PyData.canLayAll0, show PyData.strOk z = true from h, Bool.and_self]
  · simp [PyData.depth, PyData.depthAll]
theorem eqD_si {K : PySem.W.Frag} {H : Hp} {a b : Addr} {z : Str} {n : Int} {Q : VK} (h : OkS z) (ha : SqT K H a [.str z, .int n]) (hb : SqT K H b [.str z, .int n]) (q : Q (.bl true) H) : rEqD K (.ref a) (.ref b) H Q :=
  eqD_same (d := .tuple [.str z, .int n]) (.tup ha (.cons (.str _) (.cons (.int _) .nil))) (.tup hb (.cons (.str _) (.cons (.int _) .nil))) (shaped_si z n h) q
theorem neD_intsS {K : PySem.W.Frag} {H : Hp} {a b : Addr} {ns : List Int} {Q : VK} (h1 : SqL K H a (ns.map V.int)) (h2 : SqL K H b (ns.map V.int)) (q : Q (.bl false) H) : rNeD K (.ref a) (.ref b) H Q :=
  neD_same (dp_ints h1) (dp_ints h2) (shaped_ints _) q
theorem chOk_iff (c : Int) : chOk c = true ↔ ¬ (c < 32 ∨ 126 < c ∨ c = 37) := by unfold chOk; simp; omega
theorem nthC_of {c : Int} (h : chOk c = true) : ∃ k : Nat, k < 94 ∧ nthC k = c ∧ c - 32 - (if 37 < c then 1 else 0) = (k : Int) := by
  have := chOk_rng h
  have h2 := (chOk_iff c).mp h
  by_cases h3 : 37 < c
  · refine ⟨(c - 33).toNat, by omega, ?_, by rw [if_pos h3]; omega⟩
    unfold nthC; rw [if_neg (by omega)]; omega
  · refine ⟨(c - 32).toNat, by omega, ?_, by rw [if_neg h3]; omega⟩
    unfold nthC; rw [if_pos (by omega)]; omega
theorem txt_snoc (ks : List Int) (c : Int) : txtOf ks ++ ch c = txtOf (ks ++ [c]) := by
  refine str_ext ?_
  rw [app_cps]
  show ks.map Int.toNat ++ [c.toNat] = (ks ++ [c]).map Int.toNat
  rw [List.map_append]; rfl
theorem Bys.set {xs : List Int} {k : Nat} {v : Int} (h : Bys xs) (hv : 0 ≤ v ∧ v ≤ 255) : Bys (xs.set k v) := fun x hx => by
  rcases List.mem_or_eq_of_mem_set hx with hx | rfl
  · exact h x hx
  · exact hv
theorem ixN_nat {n k : Nat} (h : k < n) : ixN n (k : Int) = some k := by
  unfold ixN
  rw [if_pos (by omega), if_pos (by omega), Int.toNat_natCast]
def sp_character_of (K : PySem.W.Frag) (cs : Cs) : Sp := fun vs H Q E => ∃ c : Int, vs = [.int c] ∧ (chOk c = true → Q (.str (ch c)) H) ∧ (chOk c = false → Q .non H)
def sp_read_number (K : PySem.W.Frag) (cs : Cs) : Sp := fun vs H Q E => ∃ (a : Addr) (xs : List Int) (p e : Nat), vs = [.ref a, .int p, .int e] ∧ SqL K H a (xs.map V.int) ∧ Bys xs ∧ e ≤ xs.length ∧
  (∀ r, rdU xs p e 32 = .error r → Dec cs H E r.1 r.2) ∧ (∀ r, rdU xs p e 32 = .ok r → Tup H Q [.int r.1, .int r.2])
def sp_read_character (K : PySem.W.Frag) (cs : Cs) : Sp := fun vs H Q E => ∃ (a : Addr) (xs : List Int) (p e : Nat), vs = [.ref a, .int p, .int e] ∧ SqL K H a (xs.map V.int) ∧ e ≤ xs.length ∧
  (∀ r, rdC xs p e = .error r → Dec cs H E r.1 r.2) ∧ (∀ c, rdC xs p e = .ok c → Tup H Q [.str (ch c), .int ((p + 1 : Nat) : Int)])
def sp_read_items (K : PySem.W.Frag) (cs : Cs) : Sp := fun vs H Q E => ∃ (a : Addr) (xs : List Int) (p e n : Nat), vs = [.ref a, .int p, .int e, .int n, .ref cs.f_read_character] ∧ SqL K H a (xs.map V.int) ∧ e ≤ xs.length ∧ n ≤ 100 ∧
  (∀ r, rdCs xs e n p [] = .error r → Dec cs H E r.1 r.2) ∧ (∀ ks q, rdCs xs e n p [] = .ok (ks, q) → ∀ t u H', Same H H' → H' u = some (.tup (ks.map fun c => .str (ch c))) → H' t = some (.tup [.ref u, .int (q : Int)]) → Q (.ref t) H')
def sp_read_name (K : PySem.W.Frag) (cs : Cs) : Sp := fun vs H Q E => ∃ (a : Addr) (xs : List Int) (p e : Nat), vs = [.ref a, .int p, .int e] ∧ SqL K H a (xs.map V.int) ∧ Bys xs ∧ e ≤ xs.length ∧
  (∀ r, rdN xs p e = .error r → Dec cs H E r.1 r.2) ∧ (∀ ks q, rdN xs p e = .ok (ks, q) → Tup H Q [.str (txtOf ks), .int (q : Int)])
def SR (K : PySem.W.Frag) (cs : Cs) (f : Addr) (sp : Sp) : Prop := f = cs.f_read_character ∧ sp = sp_read_character K cs
def sp_write_name (K : PySem.W.Frag) (cs : Cs) : Sp := fun vs H Q E => ∃ ks : List Int, vs = [.str (txtOf ks)] ∧ (∀ k ∈ ks, 0 ≤ k ∧ k < 128) ∧ ks.length ≤ 60 ∧ Lst H Q ((ks.length : Int) :: ks)
def sp__law_mixed (K : PySem.W.Frag) (cs : Cs) : Sp := fun vs H Q E => ∃ n : Int, vs = [.int n] ∧ ∀ m : Int, 0 ≤ m → Q (.int m) H
/-- the cells that are left and the number that is left of one -/
structure St (H : Hp) (S L : Addr) (ns : List Int) (m : Int) : Prop where
  s : H S = some (.lst [.ref L, .int m])
  l : H L = some (.lst (ns.map V.int))
  m : 0 ≤ m
  ne : S ≠ L
def Bt (S L : Addr) (H H' : Hp) : Prop := ∀ c o, c ≠ S → c ≠ L → H c = some o → H' c = some o
theorem Bt.refl {S L : Addr} (H : Hp) : Bt S L H H := fun _ _ _ _ e => e
theorem Bt.of {S L : Addr} {H H' : Hp} (s : Same H H') : Bt S L H H' := fun c o _ _ e => s c o e
theorem Bt.trans {S L : Addr} {H H1 H2 : Hp} (a : Bt S L H H1) (b : Bt S L H1 H2) : Bt S L H H2 := fun c o n1 n2 e => b c o n1 n2 (a c o n1 n2 e)
theorem St.same {H H' : Hp} {S L : Addr} {ns : List Int} {m : Int} (s : Same H H') (h : St H S L ns m) : St H' S L ns m := ⟨s _ _ h.s, s _ _ h.l, h.m, h.ne⟩
theorem St.new {H : Hp} {S L p : Addr} {ns : List Int} {m : Int} (h : St H S L ns m) (e : H p = none) : p ≠ S ∧ p ≠ L := ⟨(fun z => by rw [z, h.s] at e; cases e), (fun z => by rw [z, h.l] at e; cases e)⟩
def Took (H : Hp) (Q : VK) (S L : Addr) (φ : V → Prop) : Prop := ∀ v ns m H', φ v → Bt S L H H' → St H' S L ns m → Q v H'
def sp__law_take (K : PySem.W.Frag) (cs : Cs) : Sp := fun vs H Q E => ∃ (S L : Addr) (ns : List Int) (m lim : Int), vs = [.ref S, .int lim] ∧ St H S L ns m ∧ (0 < lim ∧ lim ≤ 1000) ∧ Took H Q S L (fun v => ∃ d : Int, v = .int d ∧ 0 ≤ d ∧ d < lim)
def sp__law_char (K : PySem.W.Frag) (cs : Cs) : Sp := fun vs H Q E => ∃ k : Nat, vs = [.int (k : Int)] ∧ k < 94 ∧ Q (.str (ch (nthC k))) H
def sp__law_name (K : PySem.W.Frag) (cs : Cs) : Sp := fun vs H Q E => ∃ (S L : Addr) (ns : List Int) (m : Int), vs = [.ref S] ∧ St H S L ns m ∧ Took H Q S L (fun v => ∃ ks : List Int, v = .str (txtOf ks) ∧ (∀ k ∈ ks, chOk k = true) ∧ ks.length ≤ 60)
def sp__law_is_bytes (K : PySem.W.Frag) (cs : Cs) : Sp := fun vs H Q E => ∃ (a : Addr) (xs : List Int), vs = [.ref a] ∧ H a = some (.lst (xs.map V.int)) ∧ Bys xs ∧ Q (.bl true) H
def sp__law_due (K : PySem.W.Frag) (cs : Cs) : Sp := fun vs H Q E => ∃ (a : Addr) (xs : List Int) (p e : Nat), vs = [.ref a, .int p, .int e] ∧ SqL K H a (xs.map V.int) ∧ Bys xs ∧ e ≤ xs.length ∧ Q .non H ∧ Tup H Q (erN (rdN xs p e))
def sp__law_told (K : PySem.W.Frag) (cs : Cs) : Sp := fun vs H Q E => ∃ (a : Addr) (xs : List Int) (p e : Nat), vs = [.ref a, .int p, .int e] ∧ SqL K H a (xs.map V.int) ∧ Bys xs ∧ e ≤ xs.length ∧ Tup H Q (erN (rdN xs p e))
def sp__law_right (K : PySem.W.Frag) (cs : Cs) : Sp := fun vs H Q E => ∃ (a : Addr) (xs : List Int) (p e : Nat), vs = [.ref a, .int p, .int e] ∧ SqL K H a (xs.map V.int) ∧ Bys xs ∧ e ≤ xs.length ∧ ∀ H', Same H H' → Q (.bl true) H'
def sp_lawK (K : PySem.W.Frag) : Sp := fun vs H Q _ => ∃ (a : Addr) (ns : List Int), vs = [.ref a] ∧ SqL K H a (ns.map V.int) ∧ ns.length ≤ 63 ∧ ∀ H', Q (.bl true) H'
abbrev sp_law (K : PySem.W.Frag) (_ : Cs) : Sp := sp_lawK K
section
variable {P : Program} {w : World} {K : PySem.W.Frag} {mg : Str → Option Value} {base : Heap} {cs : Cs}
theorem c_character_of (D : Def K mg "character_of" s_character_of ["code"]) (T : Tp w K mg cs)  : Cal P w K mg base CX0 1 "character_of" (sp_character_of K cs) := by
  refine D.ok sc_character_of (fun vs H Q E h => ?_) (fun f cdv A outer s H vs Q E hr h => ?_)
  · obtain ⟨c, rfl, _⟩ := h; rfl
  · obtain ⟨c, rfl, qT, qF⟩ := h
    refine ⟨_, (pss_cons (ps_if (pt_chain op_le op_le pe_int (pv 0) pe_int) (pss_one (ps_ret (pe_ix ix_str (pe_gstr (by rfl) T.w_LOW_CHARACTERS) (pe_op op_sub (pv 0) pe_int) (fun _ _ => rfl)))) pss_nil)
      (pss_cons (ps_if (pt_chain op_le op_le pe_int (pv 0) pe_int) (pss_one (ps_ret (pe_ix ix_str (pe_gstr (by rfl) T.w_HIGH_CHARACTERS) (pe_op op_sub (pv 0) pe_int) (fun _ _ => rfl)))) pss_nil)
      (pss_one (ps_ret pe_non)))), ?_⟩
    have hb : ∀ b, chOk c = b → (b = true → Q (.str (ch c)) H) ∧ (b = false → Q .non H) := fun b e => ⟨fun z => qT (e.trans z), fun z => qF (e.trans z)⟩
    have low : 32 ≤ c → c ≤ 36 → rIxS (.str " !\"#$") (.int (c - 32)) H Q := fun h1 h2 => by
      obtain ⟨k, rfl⟩ : ∃ k : Nat, c = 32 + (k : Int) := ⟨(c - 32).toNat, by omega⟩
      have e := low_at k (by omega)
      rw [show 32 + (k : Int) - 32 = (k : Int) by omega]
      refine ⟨_, _, _, rfl, rfl, small64 (by decide +kernel), atI_nat e, ?_⟩
      have := qT (by unfold chOk; simp; omega)
      rw [show ch (32 + (k : Int)) = (⟨#[32 + k]⟩ : Str) from congrArg (fun n => (⟨#[n]⟩ : Str)) (by omega)] at this
      exact this
    have high : 38 ≤ c → c ≤ 126 → rIxS (.str "&'()*+,-./0123456789:;<=>?@ABCDEFGHIJKLMNOPQRSTUVWXYZ[\\]^_`abcdefghijklmnopqrstuvwxyz{|}~") (.int (c - 38)) H Q := fun h1 h2 => by
      obtain ⟨k, rfl⟩ : ∃ k : Nat, c = 38 + (k : Int) := ⟨(c - 38).toNat, by omega⟩
      have e := high_at k (by omega)
      rw [show 38 + (k : Int) - 38 = (k : Int) by omega]
      refine ⟨_, _, _, rfl, rfl, small64 (by decide +kernel), atI_nat e, ?_⟩
      have := qT (by unfold chOk; simp; omega)
      rw [show ch (38 + (k : Int)) = (⟨#[38 + k]⟩ : Str) from congrArg (fun n => (⟨#[n]⟩ : Str)) (by omega)] at this
      exact this
    walk_at "go"
    by_cases c1 : 32 ≤ c
    case neg =>
      rw [if_neg (fun z => c1 (of_decide_eq_true z))]
      walk_at "go"
      rw [if_neg (fun z => by have := of_decide_eq_true z; omega)]
      walk_at "go"
      exact qF (by unfold chOk; simp; omega)
    rw [if_pos (decide_eq_true c1)]
    walk_at "go"
    by_cases c2 : c ≤ 36
    case pos =>
      rw [show decide (c ≤ 36) = true from decide_eq_true c2]
      walk_at "go"
      exact low c1 c2
    rw [show decide (c ≤ 36) = false from decide_eq_false c2]
    walk_at "go"
    by_cases c3 : 38 ≤ c
    case neg =>
      rw [if_neg (fun z => c3 (of_decide_eq_true z))]
      walk_at "go"
      exact qF (by unfold chOk; simp; omega)
    rw [if_pos (decide_eq_true c3)]
    walk_at "go"
    by_cases c4 : c ≤ 126
    case pos =>
      rw [show decide (c ≤ 126) = true from decide_eq_true c4]
      walk_at "go"
      exact high c3 c4
    rw [show decide (c ≤ 126) = false from decide_eq_false c4]
    walk_at "go"
    exact qF (by unfold chOk; simp; omega)
theorem c_read_number (D : Def K mg "read_number" s_read_number ["data", "place", "end"]) (T : Tp w K mg cs) (c_read_unsigned : Cal P w K mg base (L2.CX P w) 5 "read_unsigned" (sp_read_unsigned K cs)) : Cal P w K mg base (L2.CX P w) 6 "read_number" (sp_read_number K cs) := by
  refine D.okX sc_read_number (fun vs H Q E h => ?_) (fun f cdv A outer s H vs Q E hr h => ?_)
  · obtain ⟨a, xs, p, e, rfl, _⟩ := h; rfl
  · obtain ⟨a, xs, p, e, rfl, hS, hB, he, qe, q⟩ := h
    refine ⟨_, (pss_one (ps_ret (pe_cE c_read_unsigned hr (by decide) (passes_call (takes_of rfl rfl rfl rfl) (fun _ _ _ _ h => h)) (by rfl) (pa_cons (pv 0) (pa_cons (pv 1) (pa_cons (pv 2) (pa_cons pe_int pa_nil))))))), ?_⟩
    walk_at "go"
    exact ⟨a, xs, p, e, 32, rfl, hS, hB, he, by decide, by decide, qe, q⟩
theorem c_read_character (D : Def K mg "read_character" s_read_character ["data", "place", "end"]) (T : Tp w K mg cs) (c_character_of : Cal P w K mg base CX0 1 "character_of" (sp_character_of K cs)) (c_byte_at : Cal P w K mg base (L2.CX P w) 3 "byte_at" (sp_byte_at K cs)) : Cal P w K mg base (L2.CX P w) 4 "read_character" (sp_read_character K cs) := by
  refine D.okX sc_read_character (fun vs H Q E h => ?_) (fun f cdv A outer s H vs Q E hr h => ?_)
  · obtain ⟨a, xs, p, e, rfl, _⟩ := h; rfl
  · obtain ⟨a, xs, p, e, rfl, hS, he, qe, q⟩ := h
    refine ⟨_, (pss_cons (ps_set (i := 3) sc_read_character.nd rfl (by first | exact Or.inl rfl | exact Or.inr rfl) (pe_c c_character_of hr (by decide) (by rfl) (pa_cons (pe_cE c_byte_at hr (by decide) (passes_call (takes_of rfl rfl rfl rfl) (fun _ _ _ _ h => h)) (by rfl) (pa_cons (pv 0) (pa_cons (pv 1) (pa_cons (pv 2) pa_nil)))) pa_nil)))
      (pss_cons (ps_if (pt_cmpR op_isN (pv 3) pe_non (by first | rfl | exact nomark _)) (pss_one (ps_raise rfl (takes_of rfl rfl rfl rfl) (pmk_oex T.e_DecodeError.T T.iC_DecodeError T.tI_DecodeError (in_DecodeError T) (hr.mono (by decide)) T.b_DecodeError .nil pass0 (by rfl) T.e_DecodeError.g (pa_cons pe_str (pa_cons (pv 1) pa_nil))))) pss_nil)
      (pss_one (ps_ret (pe_tup (pa_cons (pv 3) (pa_cons (pe_op op_add (pv 1) pe_int) pa_nil))))))), ?_⟩
    walk_at "go"
    refine ⟨a, xs, p, e, rfl, hS, he, fun hlt => ?_, fun hle => qe _ (by unfold rdC; rw [if_pos hle])⟩
    have hrd : rdC xs p e = if chOk (xs.getD p 0) = true then .ok (xs.getD p 0) else .error ("invalid name character", p) := by unfold rdC; rw [if_neg (by omega)]
    refine ⟨_, rfl, fun hok => ?_, fun hno => ?_⟩
    · rw [if_pos hok] at hrd
      walk_at "go"
      intro t ht
      exact q _ hrd t _ (Same.new ht) (by rw [upd_same]; rfl)
    · rw [if_neg (by rw [hno]; decide)] at hrd
      walk_at "go"
      exact fly2 (qe _ hrd)
theorem c_read_items (D : Def K mg "read_items" s_read_items ["data", "place", "end", "count", "read_item"]) (T : Tp w K mg cs) (c_read_character : Cal P w K mg base (L2.CX P w) 4 "read_character" (sp_read_character K cs)) : Cal P w K mg base (L2.CX P w) 5 "read_items" (sp_read_items K cs) := by
  refine D.okX sc_read_items (fun vs H Q E h => ?_) (fun f cdv A outer s H vs Q E hr h => ?_)
  · obtain ⟨a, xs, p, e, n, rfl, _⟩ := h; rfl
  · obtain ⟨a, xs, p, e, n, rfl, hS, he, hn, qe, q⟩ := h
    have A1 : ∀ f sp, SR K cs f sp → ∃ y, Cal P w K mg base (L2.CX P w) 4 y sp ∧ mg y = some (.ref f) := by
      rintro f sp ⟨rfl, rfl⟩
      exact ⟨_, c_read_character, T.h_read_character⟩
    refine ⟨_, (pss_cons (ps_set (i := 5) sc_read_items.nd rfl (by first | exact Or.inl rfl | exact Or.inr rfl) (pe_lst pa_nil))
      (pss_cons (ps_for (passes_of rfl) rfl (pi_range1 (by rfl) T.m_range (pa_cons (pv 3) pa_nil)) (pg_name (i := 6) sc_read_items.nd rfl (by first | exact Or.inl rfl | exact Or.inr rfl)) (pss_cons (ps_asg (pe_callT (i := 4) (S := SR K cs) (C := L2.CX P w) (E := E) (k := 4) A1 hr (by decide) rfl (by first | exact Or.inl rfl | exact Or.inr rfl) (passes_call (takes_of rfl rfl rfl rfl) (fun _ _ _ _ h => h)) (pa_cons (pv 0) (pa_cons (pv 1) (pa_cons (pv 2) pa_nil)))) (pg_tup (by rfl) (pgs_cons (pg_name (i := 7) sc_read_items.nd rfl (by first | exact Or.inl rfl | exact Or.inr rfl)) (pgs_cons (pg_name (i := 1) sc_read_items.nd rfl (by first | exact Or.inl rfl | exact Or.inr rfl)) pgs_nil))))
      (pss_one (ps_expr (pe_bm PySem.F.plainAttrs_list PySem.F.slot_list_append PySem.F.type_list_append mt_append (pv 5) (pa_cons (pv 7) pa_nil))))))
      (pss_one (ps_ret (pe_tup (pa_cons (pe_callTy call_tuple_of (by rfl) T.m_tuple (by decide +kernel) (pa_cons (pv 5) pa_nil)) (pa_cons (pv 1) pa_nil))))))), ?_⟩
    walk_at "go"
    intro l hl
    generalize x1 : upd H l _ = H1
    obtain ⟨s1, k1⟩ : Same H H1 ∧ H1 l = some (.lst ((([] : List Int)).map fun c => V.str (ch c))) := by subst x1; exact ⟨Same.new hl, upd_same⟩
    clear x1
    walk_at "go"
    refine for_rangeD (lo := 0) (n := n) (fun i σ H2 => Same H H2 ∧ ∃ (p' : Nat) (acc : List Int) (o6 o7 : Option V), acc.length = i ∧ rdCs xs e (n - i) p' acc = rdCs xs e n p [] ∧ H2 l = some (.lst (acc.map fun c => V.str (ch c))) ∧ σ = [some (.ref a), some (.int (p' : Int)), some (.int (e : Int)), some (.int (n : Int)), some (.ref cs.f_read_character), some (.ref l), o6, o7]) ⟨s1, p, [], _, _, rfl, rfl, k1, rfl⟩ ?_ ?_
    · rintro i _ H2 hi ⟨s2, p', acc, o6, o7, hla, hac, k2, rfl⟩
      have ei : n - i = (n - (i + 1)) + 1 := by omega
      rw [ei] at hac
      refine ⟨_, _, rfl, ⟨rfl, rfl⟩, ?_⟩
      walk_at "go"
      refine ⟨a, xs, p', e, rfl, s2.seq hS, he, fun r hr => ?_, fun c hc t H3 s3 k3 => ?_⟩
      · have : rdCs xs e n p [] = .error r := by rw [← hac, rdCs, hr]
        exact (qe r this).of s2
      · rw [rdCs, hc] at hac
        have s03 := s2.trans s3
        have k3l := s3 _ _ k2
        walk_at "go"
        refine ⟨t, _, rfl, SqT.of k3, rfl, ?_⟩
        walk_at "go"
        refine ⟨.inl ⟨rfl, _, SqL.of k3l⟩, ?_⟩
        walk_at "go"
        refine ⟨_, _, _, rfl, rfl, k3l, (by rw [List.length_map]; exact small64' (by omega)), ?_⟩
        refine ⟨fun b o e => ?_, p' + 1, acc ++ [c], _, _, by rw [List.length_append, List.length_singleton, hla], hac, ?_, rfl⟩
        · rw [upd_ne (ne_of_none e hl)]; exact s03 _ _ e
        · rw [upd_same, List.map_append]; rfl
    rintro _ H2 ⟨s2, p', acc, o6, o7, hla, hac, k2, rfl⟩
    rw [Nat.sub_self] at hac
    have hac' : rdCs xs e n p [] = .ok (acc, p') := hac.symm
    walk_at "go"
    refine ⟨l, _, rfl, .inl ⟨SqL.of k2, fun u hu => ?_⟩⟩
    generalize x3 : upd H2 u _ = H3
    obtain ⟨s3, k3⟩ : Same H2 H3 ∧ H3 u = some (.tup (acc.map fun c => V.str (ch c))) := by subst x3; exact ⟨Same.new hu, upd_same⟩
    walk_at "go"
    intro t ht
    exact q _ _ hac' t u _ (s2.trans (s3.trans (Same.new ht))) (Same.new ht _ _ k3) upd_same
theorem c_read_name (D : Def K mg "read_name" s_read_name ["data", "place", "end"]) (T : Tp w K mg cs) (c_read_number : Cal P w K mg base (L2.CX P w) 6 "read_number" (sp_read_number K cs)) (c_read_items : Cal P w K mg base (L2.CX P w) 5 "read_items" (sp_read_items K cs)) : Cal P w K mg base (L2.CX P w) 7 "read_name" (sp_read_name K cs) := by
  refine D.okX sc_read_name (fun vs H Q E h => ?_) (fun f cdv A outer s H vs Q E hr h => ?_)
  · obtain ⟨a, xs, p, e, rfl, _⟩ := h; rfl
  · obtain ⟨a, xs, p, e, rfl, hS, hB, he, qe, q⟩ := h
    refine ⟨_, (pss_cons (ps_asg (pe_cE c_read_number hr (by decide) (passes_call (takes_of rfl rfl rfl rfl) (fun _ _ _ _ h => h)) (by rfl) (pa_cons (pv 0) (pa_cons (pv 1) (pa_cons (pv 2) pa_nil)))) (pg_tup (by rfl) (pgs_cons (pg_name (i := 3) sc_read_name.nd rfl (by first | exact Or.inl rfl | exact Or.inr rfl)) (pgs_cons (pg_name (i := 1) sc_read_name.nd rfl (by first | exact Or.inl rfl | exact Or.inr rfl)) pgs_nil))))
      (pss_cons (ps_if (pt_cmpR op_gt (pv 3) (pe_gint (by rfl) T.i_MOST_CHARACTERS) (by first | rfl | exact nomark _)) (pss_one (ps_raise rfl (takes_of rfl rfl rfl rfl) (pmk_oex T.e_DecodeError.T T.iC_DecodeError T.tI_DecodeError (in_DecodeError T) (hr.mono (by decide)) T.b_DecodeError .nil pass0 (by rfl) T.e_DecodeError.g (pa_cons pe_str (pa_cons (pv 1) pa_nil))))) pss_nil)
      (pss_cons (ps_asg (pe_cE c_read_items hr (by decide) (passes_call (takes_of rfl rfl rfl rfl) (fun _ _ _ _ h => h)) (by rfl) (pa_cons (pv 0) (pa_cons (pv 1) (pa_cons (pv 2) (pa_cons (pv 3) (pa_cons (pe_glob (v := .ref cs.f_read_character) (by rfl) T.h_read_character rfl) pa_nil)))))) (pg_tup (by rfl) (pgs_cons (pg_name (i := 4) sc_read_name.nd rfl (by first | exact Or.inl rfl | exact Or.inr rfl)) (pgs_cons (pg_name (i := 1) sc_read_name.nd rfl (by first | exact Or.inl rfl | exact Or.inr rfl)) pgs_nil))))
      (pss_one (ps_ret (pe_tup (pa_cons (pe_join pe_str (pv 4)) (pa_cons (pv 1) pa_nil)))))))), ?_⟩
    walk_at "go"
    refine ⟨a, xs, p, e, rfl, hS, hB, he, fun r hr => ?_, fun r hr t H1 s1 k1 => ?_⟩
    · exact qe r (by unfold rdN; rw [hr])
    obtain ⟨c, p2⟩ := r
    have hc0 : 0 ≤ c := rdU_nn hB hr
    have hN : rdN xs p e = if 60 < c then .error ("name too long", p2) else rdCs xs e c.toNat p2 [] := by unfold rdN; rw [hr]
    refine ⟨t, _, rfl, SqT.of k1, rfl, ?_⟩
    walk_at "go"
    refine ite2 (fun c1 => ?_) (fun c1 => ?_)
    · have c1' : 60 < c := of_decide_eq_true c1
      rw [if_pos c1'] at hN
      walk_at "go"
      exact fly2 ((qe _ hN).of s1)
    have c1' : ¬ 60 < c := of_decide_eq_false (Bool.eq_false_iff.mpr c1)
    rw [if_neg c1'] at hN
    walk_at "go"
    refine ⟨a, xs, p2, e, c.toNat, by rw [show ((c.toNat : Nat) : Int) = c by omega]; rfl, s1.seq hS, he, by omega, fun r hr2 => (qe r (hN.trans hr2)).of s1, fun ks q2 hks t2 u2 H2 s2 ku2 kt2 => ?_⟩
    have hok := hN.trans hks
    have hkl := rdCs_len hks
    rw [List.length_nil] at hkl
    refine ⟨t2, _, rfl, SqT.of kt2, rfl, ?_⟩
    have eks : ks.map (fun c => V.str (ch c)) = (ks.map ch).map V.str := by rw [List.map_map]; rfl
    rw [eks] at ku2
    walk_at "go"
    dsimp only
    refine ⟨⟨_, rfl⟩, _, rfl, _, u2, ks.map ch, rfl, rfl, .inr (SqT.of ku2), (by rw [sum_ch, List.length_map, show ("" : Str).length = 0 by decide +kernel]; omega), ?_⟩
    rw [join_ch]
    walk_at "go"
    intro t3 ht3
    exact q _ _ hok t3 _ (s1.trans (s2.trans (Same.new ht3))) upd_same
theorem c_write_name (D : Def K mg "write_name" s_write_name ["name"]) (T : Tp w K mg cs) (c_write_unsigned : Cal P w K mg base CX0 1 "write_unsigned" (sp_write_unsigned K cs)) : Cal P w K mg base CX0 2 "write_name" (sp_write_name K cs) := by
  refine D.ok sc_write_name (fun vs H Q E h => ?_) (fun f cdv A outer s H vs Q E hr h => ?_)
  · obtain ⟨ks, rfl, _⟩ := h; rfl
  · obtain ⟨ks, rfl, hk, hl, q⟩ := h
    refine ⟨_, (pss_one (ps_ret (pe_op op_cat (pe_c c_write_unsigned hr (by decide) (by rfl) (pa_cons (pe_callB call_len_str (by rfl) T.m_len PySem.boot_len (pa_cons (pv 0) pa_nil)) pa_nil)) (pe_lc (own := [("character", 1)]) (g := gName 1) (tt := tYes) (by rfl) sc_write_name.nd (pi_str (pv 0)) (blkOk_by (own := [("character", 1)]) (N := ["name", "character"]) (sc := defScope s_write_name) (by decide +kernel)) (fun _ _ _ _ _ => (pg_name (i := 1) sc_write_name.nd rfl (by first | exact Or.inl rfl | exact Or.inr rfl))) (fun _ _ _ _ _ => pts_nil) (fun _ _ _ _ _ => (pe_callB call_ord (by rfl) T.m_ord (by decide +kernel) (pa_cons (pv 1) pa_nil))))))), ?_⟩
    have hz := txt_len ks
    have hw : wu (ks.length : Int) = [(ks.length : Int)] := by rw [wu, dif_pos (by omega)]
    walk_at "go"
    refine ⟨small64 (by omega), ?_⟩
    walk_at "go"
    rw [hz]
    intro p H1 s1 n1 k1
    rw [hw] at k1
    refine ⟨_, rfl, _, rfl, fun D hD => ?_⟩
    refine lc_ord hD (by rw [show (txtOf ks).cps.toList.length = ks.length from hz]; omega) (fun c H2 Q2 q2 => ?_) (fun H2 s2 k2 => ?_)
    · walk_at "go"
      exact q2
    rw [txt_ints (fun k h => (hk k h).1)] at k2
    refine ⟨p, D, _, _, rfl, rfl, s2 _ _ k1, k2, small64 (by rw [List.length_map, List.length_map, List.length_singleton]; omega), fun p3 h3 => ?_⟩
    exact q p3 _ (s1.trans (s2.trans (Same.new h3))) (none_of (s1.trans s2) h3) upd_same
theorem c__law_mixed (D : Def K mg "_law_mixed" s__law_mixed ["cell"]) (T : Tp w K mg cs)  : Cal P w K mg base CX0 1 "_law_mixed" (sp__law_mixed K cs) := by
  refine D.ok sc__law_mixed (fun vs H Q E h => ?_) (fun f cdv A outer s H vs Q E hr h => ?_)
  · obtain ⟨n, rfl, _⟩ := h; rfl
  · obtain ⟨n, rfl, q⟩ := h
    refine ⟨_, (pss_cons (ps_set (i := 1) sc__law_mixed.nd rfl (by first | exact Or.inl rfl | exact Or.inr rfl) (pe_op op_mod (pe_callTy call_int1 (by rfl) T.m_int (by decide +kernel) (pa_cons (pv 0) pa_nil)) pe_int))
      (pss_cons (ps_set (i := 2) sc__law_mixed.nd rfl (by first | exact Or.inl rfl | exact Or.inr rfl) pe_int)
      (pss_cons (ps_for PassesOwn.never rfl (pi_range1 (by rfl) T.m_range (pa_cons pe_int pa_nil)) (pg_name (i := 3) sc__law_mixed.nd rfl (by first | exact Or.inl rfl | exact Or.inr rfl)) (pss_cons (ps_set (i := 1) sc__law_mixed.nd rfl (by first | exact Or.inl rfl | exact Or.inr rfl) (pe_op op_mod (pe_callTy call_int1 (by rfl) T.m_int (by decide +kernel) (pa_cons (pe_op op_add (pe_op op_add (pe_op op_mul (pv 1) pe_int) pe_int) (pe_op op_mul pe_int (pv 3))) pa_nil)) pe_int))
      (pss_one (ps_set (i := 2) sc__law_mixed.nd rfl (by first | exact Or.inl rfl | exact Or.inr rfl) (pe_op op_add (pe_op op_mul (pv 2) pe_int) (pv 1))))))
      (pss_one (ps_ret (pv 2)))))), ?_⟩
    walk_at "go"
    refine for_rangeD (lo := 0) (n := 6) (fun i σ H2 => H = H2 ∧ ∃ (sd m : Int) (o : Option V), 0 ≤ sd ∧ 0 ≤ m ∧ σ = [some (.int n), some (.int sd), some (.int m), o]) ⟨rfl, _, 0, _, Int.emod_nonneg _ (by decide), Int.le_refl 0, rfl⟩ ?_ ?_
    · rintro i _ _ hi ⟨rfl, sd, m, o, h1, h2, rfl⟩
      have h3 : 0 ≤ (sd * 48271 + 12820163 + 7 * (0 + (i : Int))) % 1000000007 := Int.emod_nonneg _ (by decide)
      walk_at "go"
      exact ⟨_, _, _, h3, by omega, rfl⟩
    rintro _ _ ⟨rfl, sd, m, o, h1, h2, rfl⟩
    walk_at "go"
    exact q m h2
theorem c__law_take (D : Def K mg "_law_take" s__law_take ["state", "limit"]) (T : Tp w K mg cs) (c__law_mixed : Cal P w K mg base CX0 1 "_law_mixed" (sp__law_mixed K cs)) : Cal P w K mg base CX0 2 "_law_take" (sp__law_take K cs) := by
  refine D.ok sc__law_take (fun vs H Q E h => ?_) (fun f cdv A outer s H vs Q E hr h => ?_)
  · obtain ⟨S, L, ns, m, lim, rfl, _⟩ := h; rfl
  · obtain ⟨S, L, ns, m, lim, rfl, hSt, ⟨hlim, hlim2⟩, q⟩ := h
    refine ⟨_, (C8.pss_cut (ps_if (PW.pt (pw_and (pt_cmpR op_lt (pe_ix ix_list (pv 0) pe_int (fun _ _ => rfl)) (pv 1) (by first | rfl | exact nomark _)) (pw_and1 (pt_cmpR op_gt (pe_callB call_len_seq (by rfl) T.m_len PySem.boot_len (pa_cons (pe_ix ix_list (pv 0) pe_int (fun _ _ => rfl)) pa_nil)) pe_int (by first | rfl | exact nomark _))))) (pss_cons (ps_set (i := 3) sc__law_take.nd rfl (by first | exact Or.inl rfl | exact Or.inr rfl) (pe_callB call_abs (by rfl) T.m_abs (by decide +kernel) (pa_cons (pe_callTy call_int1 (by rfl) T.m_int (by decide +kernel) (pa_cons (pe_bm PySem.F.plainAttrs_list PySem.F.slot_list_pop PySem.F.type_list_pop mt_popAt (pe_ix ix_list (pv 0) pe_int (fun _ _ => rfl)) (pa_cons pe_int pa_nil)) pa_nil)) pa_nil)))
      (pss_cons (ps_if (pt_cmpR op_lt (pv 3) (pe_op op_pow pe_int pe_int) (by first | rfl | exact nomark _)) (pss_one (ps_set (i := 3) sc__law_take.nd rfl (by first | exact Or.inl rfl | exact Or.inr rfl) (pe_c c__law_mixed hr (by decide) (by rfl) (pa_cons (pv 3) pa_nil)))) pss_nil)
      (pss_one (ps_asg (pv 3) (pg_sub (pv 0) pe_int set_list))))) pss_nil)
      (pss_cons (ps_set (i := 2) sc__law_take.nd rfl (by first | exact Or.inl rfl | exact Or.inr rfl) (pe_op op_mod (pe_callTy call_int1 (by rfl) T.m_int (by decide +kernel) (pa_cons (pe_ix ix_list (pv 0) pe_int (fun _ _ => rfl)) pa_nil)) (pv 1)))
      (pss_cons (ps_asg (pe_op op_fdiv (pe_ix ix_list (pv 0) pe_int (fun _ _ => rfl)) (pv 1)) (pg_sub (pv 0) pe_int set_list))
      (pss_one (ps_ret (pv 2)))))), ?_⟩
    refine ⟨fun σ H2 => ∃ (ns' : List Int) (m' : Int) (o3 : Option V), Bt S L H H2 ∧ St H2 S L ns' m' ∧ σ = [some (.ref S), some (.int lim), none, o3], ?_, ?_⟩
    · walk_at "go"
      refine ⟨_, _, _, _, rfl, rfl, SqL.of hSt.s, rfl, ?_⟩
      walk_at "go"
      refine ite2 (fun _ => ?_) (fun _ => ?_)
      · walk_at "go"
        refine ⟨_, _, _, _, rfl, rfl, SqL.of hSt.s, rfl, ?_⟩
        walk_at "go"
        refine ⟨L, _, rfl, .inl (SqL.of hSt.l), ?_⟩
        walk_at "go"
        refine ite2 (fun c => ?_) (fun c => ?_)
        · have c' := of_decide_eq_true c
          rw [List.length_map] at c'
          walk_at "go"
          refine ⟨_, _, _, _, rfl, rfl, SqL.of hSt.s, rfl, ?_⟩
          walk_at "go"
          refine ⟨.inl ⟨rfl, _, SqL.of hSt.l⟩, ?_⟩
          cases ns with
          | nil => exact absurd c' (by decide)
          | cons n0 nr =>
          refine ⟨_, _, _, 0, _, rfl, rfl, hSt.l, by decide, by decide, (by unfold seqIndex?; simp), rfl, ?_⟩
          generalize x1 : upd H L _ = H1
          have k1 : H1 L = some (.lst (nr.map V.int)) := by subst x1; rw [upd_same]; rfl
          have b1 : Bt S L H H1 := fun c o n1 n2 e => by subst x1; rw [upd_ne n2]; exact e
          have k1s : H1 S = some (.lst [.ref L, .int m]) := by subst x1; rw [upd_ne hSt.ne]; exact hSt.s
          clear x1
          have hset : ∀ m0 : Int, 0 ≤ m0 → Bt S L H (upd H1 S (.lst [.ref L, .int m0])) ∧ St (upd H1 S (.lst [.ref L, .int m0])) S L nr m0 := fun m0 h0 => ⟨fun c o n1 n2 e => by rw [upd_ne n1]; exact b1 c o n1 n2 e, ⟨upd_same, by rw [upd_ne (fun z => hSt.ne z.symm)]; exact k1, h0, hSt.ne⟩⟩
          have hab : 0 ≤ (if n0 < 0 then -n0 else n0) := by split <;> omega
          walk_at "go"
          refine ite2 (fun _ => ?_) (fun _ => ?_)
          · walk_at "go"
            intro m0 h0
            walk_at "go"
            exact ⟨nr, m0, _, (hset m0 h0).1, (hset m0 h0).2, rfl⟩
          · walk_at "go"
            exact ⟨nr, _, _, (hset _ hab).1, (hset _ hab).2, rfl⟩
        · exact ⟨ns, m, _, Bt.refl _, hSt, rfl⟩
      · exact ⟨ns, m, _, Bt.refl _, hSt, rfl⟩
    rintro _ H2 ⟨ns', m', o3, hb, hs, rfl⟩
    walk_at "go"
    refine ⟨_, _, _, _, rfl, rfl, SqL.of hs.s, rfl, ?_⟩
    walk_at "go"
    refine ⟨_, _, _, _, rfl, rfl, SqL.of hs.s, rfl, ?_⟩
    refine ⟨_, rfl, _, _, rfl, rfl, ⟨hlim, by omega⟩, ?_⟩
    walk_at "go"
    refine ⟨S, _, _, 1, rfl, rfl, hs.s, rfl, ?_⟩
    walk_at "go"
    refine q _ ns' (m' / lim) _ ⟨_, rfl, Int.emod_nonneg _ (by omega), Int.emod_lt_of_pos _ hlim⟩ (fun c o n1 n2 e => ?_) ⟨upd_same, ?_, Int.ediv_nonneg hs.m (by omega), hs.ne⟩
    · rw [upd_ne n1]; exact hb c o n1 n2 e
    · rw [upd_ne (fun z => hs.ne z.symm)]; exact hs.l
theorem c__law_char (D : Def K mg "_law_char" s__law_char ["number"]) (T : Tp w K mg cs)  : Cal P w K mg base CX0 1 "_law_char" (sp__law_char K cs) := by
  refine D.ok sc__law_char (fun vs H Q E h => ?_) (fun f cdv A outer s H vs Q E hr h => ?_)
  · obtain ⟨k, rfl, _⟩ := h; rfl
  · obtain ⟨k, rfl, hk, q⟩ := h
    refine ⟨_, (pss_cons (ps_set (i := 1) sc__law_char.nd rfl (by first | exact Or.inl rfl | exact Or.inr rfl) pe_str)
      (pss_cons (ps_set (i := 1) sc__law_char.nd rfl (by first | exact Or.inl rfl | exact Or.inr rfl) (pe_op op_add_str (pv 1) pe_str))
      (pss_one (ps_ret (pe_ix ix_str (pv 1) (pv 0) (fun _ _ => rfl)))))), ?_⟩
    walk_at "go"
    refine ⟨_, _, _, rfl, rfl, small64 (by decide +kernel), atI_nat (law_at k hk), ?_⟩
    have e : ch (nthC k) = (⟨#[if k < 5 then 32 + k else 33 + k]⟩ : Str) := congrArg (fun n => (⟨#[n]⟩ : Str)) (by unfold nthC; split <;> omega)
    rw [e] at q
    exact q
theorem c__law_name (D : Def K mg "_law_name" s__law_name ["state"]) (T : Tp w K mg cs) (c__law_take : Cal P w K mg base CX0 2 "_law_take" (sp__law_take K cs)) (c__law_char : Cal P w K mg base CX0 1 "_law_char" (sp__law_char K cs)) : Cal P w K mg base CX0 3 "_law_name" (sp__law_name K cs) := by
  refine D.ok sc__law_name (fun vs H Q E h => ?_) (fun f cdv A outer s H vs Q E hr h => ?_)
  · obtain ⟨S, L, ns, m, rfl, _⟩ := h; rfl
  · obtain ⟨S, L, ns, m, rfl, hSt, q⟩ := h
    refine ⟨_, (pss_cons (ps_set (i := 1) sc__law_name.nd rfl (by first | exact Or.inl rfl | exact Or.inr rfl) (pe_c c__law_take hr (by decide) (by rfl) (pa_cons (pv 0) (pa_cons pe_int pa_nil))))
      (C8.pss_cut (ps_if (pt_cmpR op_eq (pe_c c__law_take hr (by decide) (by rfl) (pa_cons (pv 0) (pa_cons pe_int pa_nil))) pe_int (by first | rfl | exact nomark _)) (pss_one (ps_set (i := 1) sc__law_name.nd rfl (by first | exact Or.inl rfl | exact Or.inr rfl) (pe_c c__law_take hr (by decide) (by rfl) (pa_cons (pv 0) (pa_cons pe_int pa_nil))))) pss_nil)
      (pss_one (ps_ret (pe_join pe_str (pe_lc (own := [("k", 2)]) (g := gName 2) (tt := tYes) (by rfl) sc__law_name.nd (pi_range1 (by rfl) T.m_range (pa_cons (pv 1) pa_nil)) (blkOk_by (own := [("k", 2)]) (N := ["state", "size", "k"]) (sc := defScope s__law_name) (by decide +kernel)) (fun _ _ _ _ _ => (pg_name (i := 2) sc__law_name.nd rfl (by first | exact Or.inl rfl | exact Or.inr rfl))) (fun _ _ _ _ _ => pts_nil) (fun _ _ _ _ _ => (pe_c c__law_char hr (by decide) (by rfl) (pa_cons (pe_c c__law_take hr (by decide) (by rfl) (pa_cons (pv 0) (pa_cons pe_int pa_nil))) pa_nil))))))))), ?_⟩
    walk_at "go"
    refine ⟨S, L, ns, m, 4, rfl, hSt, ⟨by decide, by decide⟩, fun v ns1 m1 H1 hv b1 st1 => ?_⟩
    obtain ⟨d, rfl, d0, d1⟩ := hv
    walk_at "go"
    refine ⟨fun σ H2 => ∃ (ns2 : List Int) (m2 : Int) (n : Nat), n ≤ 60 ∧ Bt S L H H2 ∧ St H2 S L ns2 m2 ∧ σ = [some (.ref S), some (.int (n : Int)), none], ?_, ?_⟩
    · walk_at "go"
      refine ⟨S, L, ns1, m1, 8, rfl, st1, ⟨by decide, by decide⟩, fun v ns2 m2 H2 hv b2 st2 => ?_⟩
      obtain ⟨d', rfl, _, _⟩ := hv
      walk_at "go"
      refine ite2 (fun _ => ?_) (fun _ => ?_)
      · walk_at "go"
        refine ⟨S, L, ns2, m2, 61, rfl, st2, ⟨by decide, by decide⟩, fun v ns3 m3 H3 hv b3 st3 => ?_⟩
        obtain ⟨d3, rfl, d30, d31⟩ := hv
        walk_at "go"
        exact ⟨ns3, m3, d3.toNat, by omega, b1.trans (b2.trans b3), st3, by rw [show ((d3.toNat : Nat) : Int) = d3 by omega]; rfl⟩
      · exact ⟨ns2, m2, d.toNat, by omega, b1.trans b2, st2, by rw [show ((d.toNat : Nat) : Int) = d by omega]; rfl⟩
    rintro _ H2 ⟨ns2, m2, n, hn, b2, st2, rfl⟩
    refine ⟨⟨_, rfl⟩, ?_⟩
    walk_at "go"
    intro D hD
    obtain ⟨nDS, nDL⟩ := st2.new hD
    refine lc_range (fun i H' => Bt S L H2 H' ∧ (∃ ns m, St H' S L ns m) ∧ ∃ ks : List Int, ks.length = i ∧ (∀ k ∈ ks, chOk k = true) ∧ H' D = some (.lst ((ks.map ch).map V.str))) ⟨Bt.of (Same.new hD), ⟨_, _, st2.same (Same.new hD)⟩, [], rfl, (fun _ z => nomatch z), upd_same⟩ (fun i H' hi h => ?_) (fun H' h => ?_)
    · obtain ⟨b3, ⟨ns3, m3, st3⟩, ks, hl, hk, kD⟩ := h
      refine ⟨rfl, ?_⟩
      simp only [tYes, if_true]
      walk_at "go"
      refine ⟨S, L, ns3, m3, 94, rfl, st3, ⟨by decide, by decide⟩, fun v ns4 m4 H4 hv b4 st4 => ?_⟩
      obtain ⟨d, rfl, d0, d1⟩ := hv
      obtain ⟨d, rfl⟩ := Int.eq_ofNat_of_zero_le d0
      refine ⟨d, rfl, by omega, _, b4 _ _ nDS nDL kD, by rw [List.length_map, List.length_map]; exact small64' (by omega), ?_⟩
      refine ⟨fun c o n1 n2 e => ?_, ⟨ns4, m4, ⟨?_, ?_, st4.m, st4.ne⟩⟩, ks ++ [nthC d], by rw [List.length_append, List.length_singleton, hl], fun k hk' => ?_, ?_⟩
      · rw [upd_ne (ne_of_none e hD)]; exact b4 c o n1 n2 (b3 c o n1 n2 e)
      · rw [upd_ne (fun z => nDS z.symm)]; exact st4.s
      · rw [upd_ne (fun z => nDL z.symm)]; exact st4.l
      · rcases List.mem_append.mp hk' with h1 | h1
        · exact hk k h1
        · rw [List.mem_singleton.mp h1]; exact nthC_ok d (by omega)
      · rw [upd_same, List.map_append, List.map_append]; rfl
    obtain ⟨b3, ⟨ns3, m3, st3⟩, ks, hl, hk, kD⟩ := h
    refine ⟨_, D, ks.map ch, rfl, rfl, .inl (SqL.of kD), (by rw [sum_ch, List.length_map, show ("" : Str).length = 0 by decide +kernel]; omega), ?_⟩
    rw [join_ch]
    walk_at "go"
    exact q _ ns3 m3 _ ⟨ks, rfl, hk, by omega⟩ (b2.trans b3) st3
theorem c__law_is_bytes (D : Def K mg "_law_is_bytes" s__law_is_bytes ["data"]) (T : Tp w K mg cs)  : Cal P w K mg base CX0 1 "_law_is_bytes" (sp__law_is_bytes K cs) := by
  refine D.ok sc__law_is_bytes (fun vs H Q E h => ?_) (fun f cdv A outer s H vs Q E hr h => ?_)
  · obtain ⟨a, xs, rfl, _⟩ := h; rfl
  · obtain ⟨a, xs, rfl, ha, hB, q⟩ := h
    refine ⟨_, (pss_cons (ps_if (pt_not (pt_val (pe_callB call_isi (by rfl) T.m_isinstance (by decide +kernel) (pa_cons (pv 0) (pa_cons (pe_bltn (v := .ty "list") (u := .type "list") (by rfl) T.m_list (by decide +kernel) rfl) pa_nil))))) (pss_one (ps_ret pe_bl)) pss_nil)
      (pss_cons (ps_for PassesOwn.never rfl (pi_list (pv 0)) (pg_name (i := 1) sc__law_is_bytes.nd rfl (by first | exact Or.inl rfl | exact Or.inr rfl)) (pss_one (ps_if (PW.pt (pw_or (pt_not (pt_val (pe_callB call_isi (by rfl) T.m_isinstance (by decide +kernel) (pa_cons (pv 1) (pa_cons (pe_bltn (v := .ty "int") (u := .type "int") (by rfl) T.m_int (by decide +kernel) rfl) pa_nil))))) (pw_or (pt_val (pe_callB call_isi (by rfl) T.m_isinstance (by decide +kernel) (pa_cons (pv 1) (pa_cons (pe_bltn (v := .ty "bool") (u := .type "bool") (by rfl) T.m_bool (by decide +kernel) rfl) pa_nil)))) (pw_or (pt_cmpR op_lt (pv 1) pe_int (by first | rfl | exact nomark _)) (pw_or1 (pt_cmpR op_gt (pv 1) pe_int (by first | rfl | exact nomark _))))))) (pss_one (ps_ret pe_bl)) pss_nil)))
      (pss_one (ps_ret pe_bl)))), ?_⟩
    walk_at "go"
    refine ⟨⟨_, SqL.of ha⟩, for_listD (xs := xs.map V.int) (fun i σ H2 => H = H2 ∧ ∃ o, σ = [some (.ref a), o]) ⟨rfl, _, rfl⟩ (fun i σ H2 _ h => by rw [← h.1]; exact SqL.of ha) ?_ ?_⟩
    · rintro i x _ _ hx ⟨rfl, o, rfl⟩
      obtain ⟨b, hb, rfl⟩ : ∃ b, xs[i]? = some b ∧ x = .int b := by
        rw [List.getElem?_map] at hx
        cases e : xs[i]? with
        | none => rw [e] at hx; cases hx
        | some b => rw [e] at hx; cases hx; exact ⟨b, rfl, rfl⟩
      have h1 := hB b (List.mem_of_getElem? hb)
      walk_at "go"
      rw [show decide (b < 0) = false from decide_eq_false (by omega)]
      walk_at "go"
      rw [show decide (255 < b) = false from decide_eq_false (by omega)]
      walk_at "go"
      exact ⟨_, rfl⟩
    · rintro _ _ ⟨rfl, o, rfl⟩
      walk_at "go"
      exact q
theorem c__law_due (D : Def K mg "_law_due" s__law_due ["data", "place", "end"]) (T : Tp w K mg cs) (c__law_char : Cal P w K mg base CX0 1 "_law_char" (sp__law_char K cs)) : Cal P w K mg base CX0 2 "_law_due" (sp__law_due K cs) := by
  refine D.ok sc__law_due (fun vs H Q E h => ?_) (fun f cdv A outer s H vs Q E hr h => ?_)
  · obtain ⟨a, xs, p, e, rfl, _⟩ := h; rfl
  · obtain ⟨a, xs, p, e, rfl, hS, hB, he, qn, q⟩ := h
    refine ⟨_, (pss_cons (ps_if (pt_cmpR op_ge (pv 1) (pv 2) (by first | rfl | exact nomark _)) (pss_one (ps_ret (pe_tup (pa_cons pe_str (pa_cons (pv 2) pa_nil))))) pss_nil)
      (pss_cons (ps_set (i := 3) sc__law_due.nd rfl (by first | exact Or.inl rfl | exact Or.inr rfl) (pe_ix ix_list (pv 0) (pv 1) (fun _ _ => rfl)))
      (pss_cons (ps_set (i := 4) sc__law_due.nd rfl (by first | exact Or.inl rfl | exact Or.inr rfl) (pe_op op_add (pv 1) pe_int))
      (C8.pss_cut (ps_if (pt_cmpR op_gt (pv 3) pe_int (by first | rfl | exact nomark _)) (pss_cons (ps_if (pt_cmpR op_ge (pv 4) (pv 2) (by first | rfl | exact nomark _)) (pss_one (ps_ret (pe_tup (pa_cons pe_str (pa_cons (pv 2) pa_nil))))) pss_nil)
      (pss_cons (ps_if (pt_cmpR op_gt (pe_ix ix_list (pv 0) (pv 4) (fun _ _ => rfl)) pe_int (by first | rfl | exact nomark _)) (pss_one (ps_ret pe_non)) pss_nil)
      (pss_cons (ps_set (i := 3) sc__law_due.nd rfl (by first | exact Or.inl rfl | exact Or.inr rfl) (pe_op op_add (pe_op op_sub (pv 3) pe_int) (pe_op op_mul pe_int (pe_ix ix_list (pv 0) (pv 4) (fun _ _ => rfl)))))
      (pss_one (ps_set (i := 4) sc__law_due.nd rfl (by first | exact Or.inl rfl | exact Or.inr rfl) (pe_op op_add (pv 4) pe_int)))))) pss_nil)
      (pss_cons (ps_if (pt_cmpR op_gt (pv 3) pe_int (by first | rfl | exact nomark _)) (pss_one (ps_ret (pe_tup (pa_cons pe_str (pa_cons (pv 4) pa_nil))))) pss_nil)
      (pss_cons (ps_set (i := 5) sc__law_due.nd rfl (by first | exact Or.inl rfl | exact Or.inr rfl) pe_str)
      (pss_cons (ps_for PassesOwn.never rfl (pi_range1 (by rfl) T.m_range (pa_cons (pv 3) pa_nil)) (pg_name (i := 6) sc__law_due.nd rfl (by first | exact Or.inl rfl | exact Or.inr rfl)) (pss_cons (ps_if (pt_cmpR op_ge (pe_op op_add (pv 4) (pv 6)) (pv 2) (by first | rfl | exact nomark _)) (pss_one (ps_ret (pe_tup (pa_cons pe_str (pa_cons (pv 2) pa_nil))))) pss_nil)
      (pss_cons (ps_set (i := 7) sc__law_due.nd rfl (by first | exact Or.inl rfl | exact Or.inr rfl) (pe_ix ix_list (pv 0) (pe_op op_add (pv 4) (pv 6)) (fun _ _ => rfl)))
      (pss_cons (ps_if (PW.pt (pw_or (pt_cmpR op_lt (pv 7) pe_int (by first | rfl | exact nomark _)) (pw_or (pt_cmpR op_gt (pv 7) pe_int (by first | rfl | exact nomark _)) (pw_or1 (pt_cmpR op_eq (pv 7) pe_int (by first | rfl | exact nomark _)))))) (pss_one (ps_ret (pe_tup (pa_cons pe_str (pa_cons (pe_op op_add (pv 4) (pv 6)) pa_nil))))) pss_nil)
      (pss_one (ps_set (i := 5) sc__law_due.nd rfl (by first | exact Or.inl rfl | exact Or.inr rfl) (pe_op op_add_str (pv 5) (pe_c c__law_char hr (by decide) (by rfl) (pa_cons (pe_op op_sub (pe_op op_sub (pv 7) pe_int) (pe_callTy call_int1 (by rfl) T.m_int (by decide +kernel) (pa_cons (pe_cmpR op_gt (pv 7) pe_int (by first | rfl | exact nomark _)) pa_nil))) pa_nil)))))))))
      (pss_one (ps_ret (pe_tup (pa_cons (pv 5) (pa_cons (pe_op op_add (pv 4) (pv 3)) pa_nil)))))))))))), ?_⟩
    have hret : ∀ r, rdN xs p e = r → ∀ vs, erN r = vs → ∀ t, H t = none → Q (.ref t) (upd H t (.tup vs)) := fun r h1 vs h2 t ht => by
      rw [h1, h2] at q
      exact q t _ (Same.new ht) upd_same
    have hN : rdN xs p e = match rdU xs p e 32 with
      | .error r => .error r
      | .ok (c, q) => if 60 < c then .error ("name too long", q) else rdCs xs e c.toNat q [] := rfl
    walk_at "go"
    refine ite2 (fun c => ?_) (fun c => ?_)
    · have c' : e ≤ p := by have := of_decide_eq_true c; omega
      rw [rdU_e0 c'] at hN
      walk_at "go"
      exact hret _ hN _ rfl
    have c0 : ¬ e ≤ p := by have := of_decide_eq_false (Bool.eq_false_iff.mpr c); omega
    have hb0 := hB.at p
    walk_at "go"
    dsimp only [gName]
    refine ⟨fun σ H2 => H = H2 ∧ ∃ (c : Int) (q2 : Nat), rdU xs p e 32 = .ok (c, q2) ∧ 0 ≤ c ∧ σ = [some (.ref a), some (.int (p : Int)), some (.int (e : Int)), some (.int c), some (.int (q2 : Int)), none, none, none], ?_, ?_⟩
    · walk_at "go"
      refine ite2 (fun c1 => ?_) (fun c1 => ?_)
      · have c1' : 127 < xs.getD p 0 := of_decide_eq_true c1
        have ep : (p : Int) + 1 = ((p + 1 : Nat) : Int) := by omega
        have hb1 := hB.at (p + 1)
        walk_at "go"
        refine ite2 (fun c2 => ?_) (fun c2 => ?_)
        · have c2' : e ≤ p + 1 := by have := of_decide_eq_true c2; omega
          rw [rdU_e1 c0 (by omega) c2'] at hN
          walk_at "go"
          exact hret _ hN _ rfl
        have c2' : ¬ e ≤ p + 1 := by have := of_decide_eq_false (Bool.eq_false_iff.mpr c2); omega
        walk_at "go"
        refine ⟨_, _, _, _, rfl, rfl, hS, (by rw [ep]; exact at_ints (by omega)), ?_⟩
        walk_at "go"
        refine ite2 (fun c3 => ?_) (fun c3 => ?_)
        · walk_at "go"
          exact qn
        have c3' : ¬ 127 < xs.getD (p + 1) 0 := of_decide_eq_false (Bool.eq_false_iff.mpr c3)
        walk_at "go"
        refine ⟨_, _, _, _, rfl, rfl, hS, (by rw [ep]; exact at_ints (by omega)), ?_⟩
        walk_at "go"
        exact ⟨_, _, rdU_2 c0 (by omega) c2' (by omega), by omega, rfl⟩
      · have c1' : ¬ 127 < xs.getD p 0 := of_decide_eq_false (Bool.eq_false_iff.mpr c1)
        exact ⟨rfl, _, _, rdU_1 c0 (by omega), hb0.1, rfl⟩
    rintro _ _ ⟨rfl, c, q2, hU, hc0, rfl⟩
    rw [hU] at hN
    walk_at "go"
    refine ite2 (fun c1 => ?_) (fun c1 => ?_)
    · have c1' : 60 < c := of_decide_eq_true c1
      have hN1 : rdN xs p e = .error ("name too long", q2) := hN.trans (if_pos c1')
      walk_at "go"
      exact hret _ hN1 _ rfl
    have c1' : ¬ 60 < c := of_decide_eq_false (Bool.eq_false_iff.mpr c1)
    have hN2 : rdN xs p e = rdCs xs e c.toNat q2 [] := hN.trans (if_neg c1')
    obtain ⟨n, rfl⟩ := Int.eq_ofNat_of_zero_le hc0
    rw [Int.toNat_natCast] at hN2
    walk_at "go"
    refine for_rangeD (lo := 0) (n := n) (fun i σ H2 => H = H2 ∧ ∃ (acc : List Int) (o6 o7 : Option V), acc.length = i ∧ (∀ k ∈ acc, chOk k = true) ∧ rdCs xs e (n - i) (q2 + i) acc = rdN xs p e ∧ σ = [some (.ref a), some (.int (p : Int)), some (.int (e : Int)), some (.int (n : Int)), some (.int (q2 : Int)), some (.str (txtOf acc)), o6, o7]) ⟨rfl, [], _, _, rfl, (fun _ z => nomatch z), hN2.symm, rfl⟩ ?_ ?_
    · rintro i _ _ hi ⟨rfl, acc, o6, o7, hl, hk, hr, rfl⟩
      have ei : n - i = (n - (i + 1)) + 1 := by omega
      have eq2 : (q2 : Int) + (0 + (i : Int)) = ((q2 + i : Nat) : Int) := by omega
      rw [ei, rdCs] at hr
      unfold rdC at hr
      walk_at "go"
      refine ite2 (fun c2 => ?_) (fun c2 => ?_)
      · have c2' : e ≤ q2 + i := by have := of_decide_eq_true c2; omega
        rw [if_pos c2'] at hr
        walk_at "go"
        exact hret _ hr.symm _ rfl
      have c2' : ¬ e ≤ q2 + i := by have := of_decide_eq_false (Bool.eq_false_iff.mpr c2); omega
      rw [if_neg c2'] at hr
      walk_at "go"
      refine ⟨_, _, _, _, rfl, rfl, hS, (by rw [eq2]; exact at_ints (by omega)), ?_⟩
      obtain ⟨cd, hcd⟩ : ∃ cd, cd = xs.getD (q2 + i) 0 := ⟨_, rfl⟩
      rw [← hcd] at hr ⊢
      walk_at "go"
      have hbad : chOk cd = false → rdN xs p e = .error ("invalid name character", q2 + i) := fun h => by
        rw [← hr, if_neg (by rw [h]; decide)]
      have evs : erN (.error ("invalid name character", q2 + i)) = [V.str "invalid name character", V.int ((q2 : Int) + (0 + (i : Int)))] := by rw [eq2]; rfl
      have hno : ¬ chOk cd = true → chOk cd = false := fun h => Bool.eq_false_iff.mpr h
      by_cases d1 : cd < 32
      · rw [show decide (cd < 32) = true from decide_eq_true d1]
        walk_at "go"
        exact hret _ (hbad (hno fun h => (chOk_iff cd).mp h (.inl d1))) _ evs
      rw [show decide (cd < 32) = false from decide_eq_false d1]
      walk_at "go"
      by_cases d2 : 126 < cd
      · rw [show decide (126 < cd) = true from decide_eq_true d2]
        walk_at "go"
        exact hret _ (hbad (hno fun h => (chOk_iff cd).mp h (.inr (.inl d2)))) _ evs
      rw [show decide (126 < cd) = false from decide_eq_false d2]
      walk_at "go"
      by_cases d3 : cd = 37
      · refine ifEq d3 ?_
        walk_at "go"
        exact hret _ (hbad (hno fun h => (chOk_iff cd).mp h (.inr (.inr d3)))) _ evs
      refine ifEqN d3 ?_
      have hok : chOk cd = true := (chOk_iff cd).mpr (by omega)
      obtain ⟨k, hk94, hnk, hkk⟩ := nthC_of hok
      rw [if_pos hok] at hr
      walk_at "go"
      refine .inr ⟨_, rfl, ?_⟩
      walk_at "go"
      refine ⟨k, (by rw [← hkk]; by_cases z : 37 < cd <;> simp [z]), hk94, ?_⟩
      walk_at "go"
      refine ⟨small64 (by rw [txt_len, show (ch (nthC k)).length = 1 from rfl]; omega), ?_⟩
      walk_at "go"
      refine ⟨acc ++ [cd], _, _, by rw [List.length_append, List.length_singleton, hl], fun x hx => ?_, hr, by rw [hnk, txt_snoc]; rfl⟩
      rcases List.mem_append.mp hx with hx | hx
      · exact hk x hx
      · rw [List.mem_singleton.mp hx]; exact hok
    rintro _ _ ⟨rfl, acc, o6, o7, hl, hk, hr, rfl⟩
    rw [Nat.sub_self] at hr
    walk_at "go"
    intro t ht
    exact hret (.ok (acc, q2 + n)) hr.symm _ rfl t ht
theorem c__law_told (D : Def K mg "_law_told" s__law_told ["data", "place", "end"]) (T : Tp w K mg cs) (c_read_name : Cal P w K mg base (L2.CX P w) 7 "read_name" (sp_read_name K cs)) : Cal P w K mg base CX0 8 "_law_told" (sp__law_told K cs) := by
  refine D.ok sc__law_told (fun vs H Q E h => ?_) (fun f cdv A outer s H vs Q E hr h => ?_)
  · obtain ⟨a, xs, p, e, rfl, _⟩ := h; rfl
  · obtain ⟨a, xs, p, e, rfl, hS, hB, he, q⟩ := h
    refine ⟨_, (pss_one (ps_try_as (i := 3) (tb := _) (ts := _) (Wout := fun _ _ _ _ => False) rfl rfl sc__law_told.nd rfl rfl ⟨rfl, by decide, .inl T.g_HostError⟩ takes0 (fun W pn xe tk po => (pss_one (ps_ret (pe_cS c_read_name hr (by decide) (by rfl) (fun σ => passAt tk σ) (pa_cons (pv 0) (pa_cons (pv 1) (pa_cons (pv 2) pa_nil))))))) (fun a oe cls d pn hz hf => (pss_cons (ps_if (pt_val (pe_callB (call_isX hz hf T.e_DecodeError) (by rfl) T.m_isinstance (by decide +kernel) (pa_cons (pv 3) (pa_cons (pe_glob (v := .ref cs.C_DecodeError) (by rfl) T.g_DecodeError rfl) pa_nil)))) (pss_one (ps_ret (pe_tup (pa_cons (pe_xf T.e_DecodeError.xf T.no_DecodeError_reason hz hf (pv 3)) (pa_cons (pe_xf T.e_DecodeError.xf T.no_DecodeError_place hz hf (pv 3)) pa_nil))))) pss_nil)
      (pss_one (ps_ret pe_non)))))), ?_⟩
    walk_at "go"
    refine ⟨a, xs, p, e, rfl, hS, hB, he, fun r hr => ?_, fun ks q2 hr => ?_⟩
    · rw [hr] at q
      intro d Hf s1 hd
      refine ⟨true, T.exm_DecodeError_HostError, fun _ ea hea => ?_, fun z => Bool.noConfusion z⟩
      walk_at "go"
      refine ⟨_, _, true, d, _, rfl, rfl, rfl, hd, rfl, fun u hu => hu, T.kit_DecodeError_DecodeError, ?_⟩
      walk_at "go"
      refine ⟨d, _, _, rfl, hd, rfl, ?_⟩
      walk_at "go"
      refine ⟨d, _, _, rfl, hd, rfl, ?_⟩
      walk_at "go"
      intro t ht
      exact q t _ (s1.trans (Same.new ht)) upd_same
    · rw [hr] at q
      intro t Hf s1 ht
      exact q t _ s1 ht
theorem c__law_right (D : Def K mg "_law_right" s__law_right ["data", "place", "end"]) (T : Tp w K mg cs) (c__law_due : Cal P w K mg base CX0 2 "_law_due" (sp__law_due K cs)) (c__law_told : Cal P w K mg base CX0 8 "_law_told" (sp__law_told K cs)) : Cal P w K mg base CX0 9 "_law_right" (sp__law_right K cs) := by
  refine D.ok sc__law_right (fun vs H Q E h => ?_) (fun f cdv A outer s H vs Q E hr h => ?_)
  · obtain ⟨a, xs, p, e, rfl, _⟩ := h; rfl
  · obtain ⟨a, xs, p, e, rfl, hS, hB, he, q⟩ := h
    refine ⟨_, (pss_cons (ps_set (i := 3) sc__law_right.nd rfl (by first | exact Or.inl rfl | exact Or.inr rfl) (pe_c c__law_due hr (by decide) (by rfl) (pa_cons (pv 0) (pa_cons (pv 1) (pa_cons (pv 2) pa_nil)))))
      (pss_cons (ps_if (pt_cmpR op_isN (pv 3) pe_non (by first | rfl | exact nomark _)) (pss_one (ps_ret pe_bl)) pss_nil)
      (pss_cons (ps_set (i := 4) sc__law_right.nd rfl (by first | exact Or.inl rfl | exact Or.inr rfl) (pe_callTy call_list_of (by rfl) T.m_list (by decide +kernel) (pa_cons (pv 0) pa_nil)))
      (pss_cons (ps_set (i := 5) sc__law_right.nd rfl (by first | exact Or.inl rfl | exact Or.inr rfl) (pe_c c__law_told hr (by decide) (by rfl) (pa_cons (pv 4) (pa_cons (pv 1) (pa_cons (pv 2) pa_nil)))))
      (pss_cons (ps_if (PW.pt (pw_or (pt_not (pt_val (pe_callB call_isi (by rfl) T.m_isinstance (by decide +kernel) (pa_cons (pv 5) (pa_cons (pe_bltn (v := .ty "tuple") (u := .type "tuple") (by rfl) T.m_tuple (by decide +kernel) rfl) pa_nil))))) (pw_or (pt_cmpR op_ne (pe_callB call_len_seq (by rfl) T.m_len PySem.boot_len (pa_cons (pv 5) pa_nil)) pe_int (by first | rfl | exact nomark _)) (pw_or1 (pt_cmpR (op_neD (hu64 hr)) (pv 4) (pv 0) (by first | rfl | exact nomark _)))))) (pss_one (ps_ret pe_bl)) pss_nil)
      (pss_cons (ps_if (PW.pt (pw_or (pt_not (pt_val (pe_callB call_isi (by rfl) T.m_isinstance (by decide +kernel) (pa_cons (pe_ix ix_tup (pv 5) pe_int (fun _ _ => rfl)) (pa_cons (pe_bltn (v := .ty "str") (u := .type "str") (by rfl) T.m_str (by decide +kernel) rfl) pa_nil))))) (pw_or (pt_not (pt_val (pe_callB call_isi (by rfl) T.m_isinstance (by decide +kernel) (pa_cons (pe_ix ix_tup (pv 5) pe_int (fun _ _ => rfl)) (pa_cons (pe_bltn (v := .ty "int") (u := .type "int") (by rfl) T.m_int (by decide +kernel) rfl) pa_nil))))) (pw_or1 (pt_val (pe_callB call_isi (by rfl) T.m_isinstance (by decide +kernel) (pa_cons (pe_ix ix_tup (pv 5) pe_int (fun _ _ => rfl)) (pa_cons (pe_bltn (v := .ty "bool") (u := .type "bool") (by rfl) T.m_bool (by decide +kernel) rfl) pa_nil)))))))) (pss_one (ps_ret pe_bl)) pss_nil)
      (pss_one (ps_ret (pe_cmpR (op_eqD (hu64 hr)) (pv 5) (pv 3) (by first | rfl | exact nomark _)))))))))), ?_⟩
    obtain ⟨z, n, er, hz⟩ := rdN_ok xs p e
    walk_at "go"
    refine ⟨a, xs, p, e, rfl, hS, hB, he, ?_, fun t H1 s1 k1 => ?_⟩
    · walk_at "go"
      exact q _ (Same.refl _)
    rw [er] at k1
    walk_at "go"
    refine ⟨a, _, rfl, .inl (s1.seq hS), fun l hl => ?_⟩
    generalize x2 : upd H1 l _ = H2
    obtain ⟨s2, k2⟩ : Same H1 H2 ∧ H2 l = some (.lst (xs.map V.int)) := by subst x2; exact ⟨Same.new hl, upd_same⟩
    walk_at "go"
    refine ⟨l, xs, p, e, rfl, SqL.of k2, hB, he, fun t3 H3 s3 k3 => ?_⟩
    rw [er] at k3
    have s03 := s1.trans (s2.trans s3)
    walk_at "go"
    refine ⟨t3, _, rfl, .inr (SqT.of k3), ?_⟩
    walk_at "go"
    refine neD_intsS (SqL.of (s3 _ _ k2)) (s03.seq hS) ?_
    walk_at "go"
    refine ⟨_, _, _, _, rfl, rfl, SqT.of k3, rfl, ?_⟩
    walk_at "go"
    refine ⟨_, _, _, _, rfl, rfl, SqT.of k3, rfl, ?_⟩
    walk_at "go"
    refine ⟨_, _, _, _, rfl, rfl, SqT.of k3, rfl, ?_⟩
    walk_at "go"
    refine eqD_si hz (SqT.of k3) (SqT.of (s3 _ _ (s2 _ _ k1))) ?_
    walk_at "go"
    exact q _ s03
theorem c_law {f : Addr} {fd : FuncData} (D : L2.Fun K "law" "law" s_law f fd) (T : Tp w K mg cs) (c__law_name : Cal P w K mg base CX0 3 "_law_name" (sp__law_name K cs)) (c_write_name : Cal P w K mg base CX0 2 "write_name" (sp_write_name K cs)) (c__law_right : Cal P w K mg base CX0 9 "_law_right" (sp__law_right K cs)) (c__law_take : Cal P w K mg base CX0 2 "_law_take" (sp__law_take K cs)) (c__law_is_bytes : Cal P w K mg base CX0 1 "_law_is_bytes" (sp__law_is_bytes K cs)) : FnOk P w K mg base CX0 10 f fd ["script"] (sp_law K cs) := by
  refine D.ok sc_law (fun vs H Q E h => ?_) (fun cdv A outer s H vs Q E hr h => ?_)
  · obtain ⟨a, ns, rfl, _⟩ := h; rfl
  · obtain ⟨a, ns0, rfl, hS, hlen, q⟩ := h
    refine ⟨_, (pss_cons (ps_set (i := 1) sc_law.nd rfl (by first | exact Or.inl rfl | exact Or.inr rfl) (pe_lst (pa_cons (pe_lc (own := [("cell", 9)]) (g := gName 9) (tt := tYes) (by rfl) sc_law.nd (pi_list (pe_slice sl_list (pv 0) po_none (po_some pe_int))) (blkOk_by (own := [("cell", 9)]) (N := ["script", "state", "k", "name", "data", "before", "file", "place", "changed", "cell", "char"]) (sc := defScope s_law) (by decide +kernel)) (fun _ _ _ _ _ => (pg_name (i := 9) sc_law.nd rfl (by first | exact Or.inl rfl | exact Or.inr rfl))) (fun _ _ _ _ _ => pts_nil) (fun _ _ _ _ _ => (pe_callTy call_int1 (by rfl) T.m_int (by decide +kernel) (pa_cons (pv 9) pa_nil)))) (pa_cons pe_int pa_nil))))
      (pss_cons (ps_for PassesOwn.never rfl (pi_range1 (by rfl) T.m_range (pa_cons pe_int pa_nil)) (pg_name (i := 2) sc_law.nd rfl (by first | exact Or.inl rfl | exact Or.inr rfl)) (pss_cons (ps_set (i := 3) sc_law.nd rfl (by first | exact Or.inl rfl | exact Or.inr rfl) (pe_c c__law_name hr (by decide) (by rfl) (pa_cons (pv 1) pa_nil)))
      (pss_cons (ps_set (i := 4) sc_law.nd rfl (by first | exact Or.inl rfl | exact Or.inr rfl) (pe_c c_write_name hr (by decide) (by rfl) (pa_cons (pv 3) pa_nil)))
      (pss_cons (ps_if (PW.pt (pw_or (pt_not (pt_val (pe_c c__law_is_bytes hr (by decide) (by rfl) (pa_cons (pv 4) pa_nil)))) (pw_or1 (pt_cmpR (op_neD (hu64 hr)) (pv 4) (pe_op op_cat (pe_lst (pa_cons (pe_callB call_len_str (by rfl) T.m_len PySem.boot_len (pa_cons (pv 3) pa_nil)) pa_nil)) (pe_lc (own := [("char", 10)]) (g := gName 10) (tt := tYes) (by rfl) sc_law.nd (pi_str (pv 3)) (blkOk_by (own := [("char", 10)]) (N := ["script", "state", "k", "name", "data", "before", "file", "place", "changed", "cell", "char"]) (sc := defScope s_law) (by decide +kernel)) (fun _ _ _ _ _ => (pg_name (i := 10) sc_law.nd rfl (by first | exact Or.inl rfl | exact Or.inr rfl))) (fun _ _ _ _ _ => pts_nil) (fun _ _ _ _ _ => (pe_callB call_ord (by rfl) T.m_ord (by decide +kernel) (pa_cons (pv 10) pa_nil))))) (by first | rfl | exact nomark _))))) (pss_one (ps_ret pe_bl)) pss_nil)
      (pss_cons (ps_set (i := 5) sc_law.nd rfl (by first | exact Or.inl rfl | exact Or.inr rfl) (pe_slice sl_list (pe_lst (pa_cons pe_int (pa_cons pe_int pa_nil))) po_none (po_some (pe_c c__law_take hr (by decide) (by rfl) (pa_cons (pv 1) (pa_cons pe_int pa_nil))))))
      (pss_cons (ps_set (i := 6) sc_law.nd rfl (by first | exact Or.inl rfl | exact Or.inr rfl) (pe_op op_cat (pe_op op_cat (pv 5) (pv 4)) (pe_slice sl_list (pe_lst (pa_cons pe_int (pa_cons pe_int (pa_cons pe_int pa_nil)))) po_none (po_some (pe_c c__law_take hr (by decide) (by rfl) (pa_cons (pv 1) (pa_cons pe_int pa_nil)))))))
      (pss_cons (ps_set (i := 7) sc_law.nd rfl (by first | exact Or.inl rfl | exact Or.inr rfl) (pe_callB call_len_seq (by rfl) T.m_len PySem.boot_len (pa_cons (pv 5) pa_nil)))
      (pss_cons (ps_if (PW.pt (pw_or (pt_not (pt_val (pe_c c__law_right hr (by decide) (by rfl) (pa_cons (pv 6) (pa_cons (pv 7) (pa_cons (pe_callB call_len_seq (by rfl) T.m_len PySem.boot_len (pa_cons (pv 6) pa_nil)) pa_nil)))))) (pw_or1 (pt_not (pt_val (pe_c c__law_right hr (by decide) (by rfl) (pa_cons (pv 6) (pa_cons (pv 7) (pa_cons (pe_op op_add (pv 7) (pe_callB call_len_seq (by rfl) T.m_len PySem.boot_len (pa_cons (pv 4) pa_nil))) pa_nil))))))))) (pss_one (ps_ret pe_bl)) pss_nil)
      (pss_cons (ps_if (pt_not (pt_val (pe_c c__law_right hr (by decide) (by rfl) (pa_cons (pv 6) (pa_cons (pv 7) (pa_cons (pe_op op_add (pv 7) (pe_c c__law_take hr (by decide) (by rfl) (pa_cons (pv 1) (pa_cons (pe_op op_add (pe_callB call_len_seq (by rfl) T.m_len PySem.boot_len (pa_cons (pv 4) pa_nil)) pe_int) pa_nil)))) pa_nil)))))) (pss_one (ps_ret pe_bl)) pss_nil)
      (pss_cons (ps_set (i := 8) sc_law.nd rfl (by first | exact Or.inl rfl | exact Or.inr rfl) (pe_callTy call_list_of (by rfl) T.m_list (by decide +kernel) (pa_cons (pv 6) pa_nil)))
      (pss_cons (ps_asg (pe_ix ix_list (pe_lst (pa_cons (pe_c c__law_take hr (by decide) (by rfl) (pa_cons (pv 1) (pa_cons pe_int pa_nil))) (pa_cons (pe_op op_add pe_int (pe_c c__law_take hr (by decide) (by rfl) (pa_cons (pv 1) (pa_cons pe_int pa_nil)))) (pa_cons (pe_c c__law_take hr (by decide) (by rfl) (pa_cons (pv 1) (pa_cons pe_int pa_nil))) pa_nil)))) (pe_c c__law_take hr (by decide) (by rfl) (pa_cons (pv 1) (pa_cons pe_int pa_nil))) (fun _ _ => rfl)) (pg_sub (pv 8) (pv 7) set_list))
      (pss_cons (ps_if (pt_not (pt_val (pe_c c__law_right hr (by decide) (by rfl) (pa_cons (pv 8) (pa_cons (pv 7) (pa_cons (pe_callB call_len_seq (by rfl) T.m_len PySem.boot_len (pa_cons (pv 8) pa_nil)) pa_nil)))))) (pss_one (ps_ret pe_bl)) pss_nil)
      (pss_cons (ps_set (i := 8) sc_law.nd rfl (by first | exact Or.inl rfl | exact Or.inr rfl) (pe_callTy call_list_of (by rfl) T.m_list (by decide +kernel) (pa_cons (pv 6) pa_nil)))
      (C8.pss_cut (ps_if (pt_cmpR op_gt (pe_callB call_len_str (by rfl) T.m_len PySem.boot_len (pa_cons (pv 3) pa_nil)) pe_int (by first | rfl | exact nomark _)) (pss_one (ps_asg (pe_c c__law_take hr (by decide) (by rfl) (pa_cons (pv 1) (pa_cons pe_int pa_nil))) (pg_sub (pv 8) (pe_op op_add (pe_op op_add (pv 7) pe_int) (pe_c c__law_take hr (by decide) (by rfl) (pa_cons (pv 1) (pa_cons (pe_callB call_len_str (by rfl) T.m_len PySem.boot_len (pa_cons (pv 3) pa_nil)) pa_nil)))) set_list))) pss_nil)
      (pss_one (ps_if (pt_not (pt_val (pe_c c__law_right hr (by decide) (by rfl) (pa_cons (pv 8) (pa_cons (pv 7) (pa_cons (pe_callB call_len_seq (by rfl) T.m_len PySem.boot_len (pa_cons (pv 8) pa_nil)) pa_nil)))))) (pss_one (ps_ret pe_bl)) pss_nil))))))))))))))))
      (pss_one (ps_ret pe_bl)))), ?_⟩
    walk_at "go"
    refine ⟨a, _, rfl, hS, fun p1 h1 => ?_⟩
    generalize x1 : upd H p1 _ = H1
    obtain ⟨s1, k1⟩ : Same H H1 ∧ H1 p1 = some (.lst ((ns0.take 63).map V.int)) := by
      subst x1
      refine ⟨Same.new h1, ?_⟩
      rw [upd_same, List.map_take]
      exact congrArg (fun z => some (HO.lst z)) (cut_to _ 63)
    clear x1
    refine ⟨_, rfl, ⟨_, SqL.of k1⟩, fun L hL => ?_⟩
    refine lc_map (f := fun v => v) hL (SqL.of k1) (by rw [List.length_map, List.length_take]; omega) (fun x H2 Q2 hx s2 q2 => ?_) (fun H2 s2 k2 => ?_)
    · obtain ⟨z, _, rfl⟩ := List.mem_map.mp hx
      walk_at "go"
      exact q2 _ (Same.refl _)
    rw [List.map_id'] at k2
    walk_at "go"
    intro S hSn
    generalize x3 : upd H2 S _ = H3
    obtain ⟨s3, k3⟩ : Same H2 H3 ∧ H3 S = some (.lst [.ref L, .int 0]) := by subst x3; exact ⟨Same.new hSn, upd_same⟩
    clear x3
    have nSL : S ≠ L := fun z => by rw [z, k2] at hSn; cases hSn
    have st0 : St H3 S L (ns0.take 63) 0 := ⟨k3, s3 _ _ k2, Int.le_refl 0, nSL⟩
    walk_at "go"
    refine for_rangeD (lo := 0) (n := 4) (fun i σ H4 => ∃ (ns : List Int) (m : Int) (o2 o3 o4 o5 o6 o7 o8 o9 o10 : Option V), St H4 S L ns m ∧ σ = [some (.ref a), some (.ref S), o2, o3, o4, o5, o6, o7, o8, o9, o10]) ⟨_, _, _, _, _, _, _, _, _, _, _, st0, rfl⟩ ?_ ?_
    · clear st0 s3 k3 k2 hL
      rintro i _ H4 hi ⟨ns, m, o2, o3, o4, o5, o6, o7, o8, o9, o10, st4, rfl⟩
      walk_at "go"
      refine ⟨S, L, ns, m, rfl, st4, fun v ns5 m5 H5 hv _ st5 => ?_⟩
      obtain ⟨ks, rfl, hk, hkl⟩ := hv
      have hk2 : ∀ k ∈ ks, 0 ≤ k ∧ k < 128 := fun k h => by have := chOk_rng (hk k h); omega
      have hdB : Bys ((ks.length : Int) :: ks) := fun x hx => by
        rcases List.mem_cons.mp hx with e | hx
        · omega
        · have := hk2 x hx; omega
      walk_at "go"
      intro pd H6 s6 n6 k6
      obtain ⟨ndS, ndL⟩ := st5.new n6
      have st6 := st5.same s6
      walk_at "go"
      refine ⟨pd, _, rfl, k6, hdB, ?_⟩
      walk_at "go"
      refine ⟨small64 (by rw [txt_len]; omega), ?_⟩
      rw [txt_len]
      walk_at "go"
      intro p7 h7
      generalize x7 : upd H6 p7 _ = H7
      obtain ⟨s7, k7⟩ : Same H6 H7 ∧ H7 p7 = some (.lst (([(ks.length : Int)] : List Int).map V.int)) := by subst x7; exact ⟨Same.new h7, upd_same⟩
      clear x7
      refine ⟨_, rfl, _, rfl, fun D8 h8 => ?_⟩
      refine lc_ord h8 (by rw [show (txtOf ks).cps.toList.length = ks.length from txt_len ks]; omega) (fun c H' Q2 q2 => ?_) (fun H8 s8 k8 => ?_)
      · walk_at "go"
        exact q2
      rw [txt_ints (fun k h => (hk2 k h).1)] at k8
      refine ⟨p7, D8, _, _, rfl, rfl, s8 _ _ k7, k8, small64 (by rw [List.length_map, List.length_map, List.length_singleton]; omega), fun p9 h9 => ?_⟩
      generalize x9 : upd H8 p9 _ = H9
      obtain ⟨s9, k9⟩ : Same H8 H9 ∧ H9 p9 = some (.lst (((ks.length : Int) :: ks).map V.int)) := by subst x9; exact ⟨Same.new h9, by rw [upd_same]; rfl⟩
      clear x9
      have s69 := s7.trans (s8.trans s9)
      have kd9 := s69 _ _ k6
      have st9 := st6.same s69
      refine neD_intsS (SqL.of kd9) (SqL.of k9) ?_
      clear k8 k7 h7 h8 h9
      walk_at "go"
      intro p10 h10
      generalize x10 : upd H9 p10 _ = H10
      obtain ⟨s10, k10⟩ : Same H9 H10 ∧ H10 p10 = some (.lst (([97, 0] : List Int).map V.int)) := by subst x10; exact ⟨Same.new h10, upd_same⟩
      clear x10
      obtain ⟨n10S, n10L⟩ := st9.new h10
      walk_at "go"
      refine ⟨S, L, ns5, m5, 3, rfl, st9.same s10, ⟨by decide, by decide⟩, fun v ns11 m11 H11 hv b11 st11 => ?_⟩
      obtain ⟨t, rfl, t0, t1⟩ := hv
      obtain ⟨t, rfl⟩ := Int.eq_ofNat_of_zero_le t0
      refine ⟨_, rfl, p10, _, rfl, SqL.of (b11 _ _ n10S n10L k10), fun pb hb => ?_⟩
      obtain ⟨bf, hbf⟩ : ∃ bf : List Int, bf = ([97, 0] : List Int).take t := ⟨_, rfl⟩
      generalize xb : upd H11 pb _ = H12
      obtain ⟨s12, k12⟩ : Same H11 H12 ∧ H12 pb = some (.lst (bf.map V.int)) := by subst xb; exact ⟨Same.new hb, by rw [upd_same, hbf, List.map_take]; exact congrArg (fun z => some (HO.lst z)) (cut_to _ t)⟩
      clear xb
      have hbfl : bf.length ≤ 2 := by rw [hbf, List.length_take]; exact Nat.min_le_right ..
      have hbfB : Bys bf := fun x hx => by
        rw [hbf] at hx
        have : x = 97 ∨ x = 0 := by
          have := List.mem_of_mem_take hx
          simpa using this
        omega
      obtain ⟨nbS, nbL⟩ := st11.new hb
      have st12 := st11.same s12
      have kd12 := s12 _ _ (b11 _ _ ndS ndL (s10 _ _ kd9))
      walk_at "go"
      refine ⟨pb, pd, _, _, rfl, rfl, k12, kd12, small64 (by simp only [List.length_map, List.length_cons]; omega), fun p13 h13 => ?_⟩
      rw [← List.map_append]
      generalize x13 : upd H12 p13 _ = H13
      obtain ⟨s13, k13⟩ : Same H12 H13 ∧ H13 p13 = some (.lst ((bf ++ ((ks.length : Int) :: ks)).map V.int)) := by subst x13; exact ⟨Same.new h13, upd_same⟩
      clear x13
      obtain ⟨n13S, n13L⟩ := st12.new h13
      walk_at "go"
      intro p14 h14
      generalize x14 : upd H13 p14 _ = H14
      obtain ⟨s14, k14⟩ : Same H13 H14 ∧ H14 p14 = some (.lst (([65, 0, 66] : List Int).map V.int)) := by subst x14; exact ⟨Same.new h14, upd_same⟩
      clear x14
      obtain ⟨n14S, n14L⟩ := (st12.same s13).new h14
      walk_at "go"
      refine ⟨S, L, ns11, m11, 4, rfl, st12.same (s13.trans s14), ⟨by decide, by decide⟩, fun v ns15 m15 H15 hv b15 st15 => ?_⟩
      obtain ⟨u, rfl, u0, u1⟩ := hv
      obtain ⟨u, rfl⟩ := Int.eq_ofNat_of_zero_le u0
      refine ⟨_, rfl, p14, _, rfl, SqL.of (b15 _ _ n14S n14L k14), fun pt ht => ?_⟩
      obtain ⟨tl, htl⟩ : ∃ tl : List Int, tl = ([65, 0, 66] : List Int).take u := ⟨_, rfl⟩
      generalize x16 : upd H15 pt _ = H16
      obtain ⟨s16, k16⟩ : Same H15 H16 ∧ H16 pt = some (.lst (tl.map V.int)) := by subst x16; exact ⟨Same.new ht, by rw [upd_same, htl, List.map_take]; exact congrArg (fun z => some (HO.lst z)) (cut_to _ u)⟩
      clear x16
      have htll : tl.length ≤ 3 := by rw [htl, List.length_take]; exact Nat.min_le_right ..
      have htlB : Bys tl := fun x hx => by
        rw [htl] at hx
        have : x = 65 ∨ x = 0 ∨ x = 66 := by
          have := List.mem_of_mem_take hx
          simpa using this
        omega
      have k13' := s16 _ _ (b15 _ _ n13S n13L (s14 _ _ k13))
      have st16 := st15.same s16
      refine ⟨p13, pt, _, _, rfl, rfl, k13', k16, small64 (by simp only [List.length_map, List.length_append, List.length_cons]; omega), fun pf hf => ?_⟩
      obtain ⟨fl, hfl⟩ : ∃ fl : List Int, fl = bf ++ ((ks.length : Int) :: ks) ++ tl := ⟨_, rfl⟩
      rw [← List.map_append, ← hfl]
      generalize x17 : upd H16 pf _ = H17
      obtain ⟨s17, kf17⟩ : Same H16 H17 ∧ H17 pf = some (.lst (fl.map V.int)) := by subst x17; exact ⟨Same.new hf, upd_same⟩
      clear x17
      obtain ⟨nfS, nfL⟩ := st16.new hf
      have st17 := st16.same s17
      have hfll : fl.length = bf.length + (ks.length + 1) + tl.length := by rw [hfl]; simp only [List.length_append, List.length_cons]
      have hflB : Bys fl := fun x hx => by
        rw [hfl] at hx
        rcases List.mem_append.mp hx with hx | hx
        · rcases List.mem_append.mp hx with hx | hx
          · exact hbfB x hx
          · exact hdB x hx
        · exact htlB x hx
      have s1217 : Bt S L H12 H17 := (Bt.of (s13.trans s14)).trans (b15.trans (Bt.of (s16.trans s17)))
      have kb17 := s1217 _ _ nbS nbL k12
      have kd17 := s1217 _ _ ndS ndL kd12
      clear k13' k16 k13 k14 k10 k12 kd12
      walk_at "go"
      refine ⟨pb, _, rfl, .inl (SqL.of kb17), ?_⟩
      rw [List.length_map]
      walk_at "go"
      refine ⟨pf, _, rfl, .inl (SqL.of kf17), ?_⟩
      rw [List.length_map]
      refine ⟨pf, fl, bf.length, fl.length, rfl, SqL.of kf17, hflB, Nat.le_refl _, fun H18 s18 => ?_⟩
      walk_at "go"
      refine ⟨pd, _, rfl, .inl (SqL.of (s18 _ _ kd17)), ?_⟩
      rw [List.length_map, List.length_cons]
      walk_at "go"
      refine ⟨pf, fl, bf.length, bf.length + (ks.length + 1), rfl, SqL.of (s18 _ _ kf17), hflB, by omega, fun H19 s19 => ?_⟩
      have s1719 := s18.trans s19
      have st19 := st17.same s1719
      have kf19 := s1719 _ _ kf17
      have kd19 := s1719 _ _ kd17
      walk_at "go"
      refine ⟨pd, _, rfl, .inl (SqL.of kd19), ?_⟩
      rw [List.length_map, List.length_cons]
      walk_at "go"
      refine ⟨S, L, ns15, m15, _, rfl, st19, ⟨by omega, by omega⟩, fun v ns20 m20 H20 hv b20 st20 => ?_⟩
      obtain ⟨d, rfl, d0, d1⟩ := hv
      obtain ⟨d, rfl⟩ := Int.eq_ofNat_of_zero_le d0
      have kf20 := b20 _ _ nfS nfL kf19
      walk_at "go"
      refine ⟨pf, fl, bf.length, bf.length + d, rfl, SqL.of kf20, hflB, by omega, fun H21 s21 => ?_⟩
      have kf21 := s21 _ _ kf20
      have st21 := st20.same s21
      clear kd19 kd17 kf17 kf19 kf20 s1719 st19 st17
      walk_at "go"
      refine ⟨pf, _, rfl, .inl (SqL.of kf21), fun pc hc => ?_⟩
      generalize x22 : upd H21 pc _ = H22
      obtain ⟨s22, kc22⟩ : Same H21 H22 ∧ H22 pc = some (.lst (fl.map V.int)) := by subst x22; exact ⟨Same.new hc, upd_same⟩
      clear x22
      obtain ⟨ncS, ncL⟩ := st21.new hc
      have ncf : pf ≠ pc := fun z => by rw [← z, kf21] at hc; cases hc
      have st22 := st21.same s22
      have kf22 := s22 _ _ kf21
      walk_at "go"
      refine ⟨S, L, ns20, m20, 61, rfl, st22, ⟨by decide, by decide⟩, fun v ns23 m23 H23 hv b23 st23 => ?_⟩
      obtain ⟨v1, rfl, v10, v11⟩ := hv
      walk_at "go"
      refine ⟨S, L, ns23, m23, 6, rfl, st23, ⟨by decide, by decide⟩, fun v ns24 m24 H24 hv b24 st24 => ?_⟩
      obtain ⟨v2, rfl, v20, v21⟩ := hv
      walk_at "go"
      refine ⟨S, L, ns24, m24, 256, rfl, st24, ⟨by decide, by decide⟩, fun v ns25 m25 H25 hv b25 st25 => ?_⟩
      obtain ⟨v3, rfl, v30, v31⟩ := hv
      walk_at "go"
      intro p26 h26
      generalize x26 : upd H25 p26 _ = H26
      obtain ⟨s26, k26⟩ : Same H25 H26 ∧ H26 p26 = some (.lst (([v1, 58 + v2, v3] : List Int).map V.int)) := by subst x26; exact ⟨Same.new h26, upd_same⟩
      clear x26
      obtain ⟨n26S, n26L⟩ := st25.new h26
      walk_at "go"
      refine ⟨S, L, ns25, m25, 3, rfl, st25.same s26, ⟨by decide, by decide⟩, fun v ns27 m27 H27 hv b27 st27 => ?_⟩
      obtain ⟨w, rfl, w0, w1⟩ := hv
      obtain ⟨w, rfl⟩ := Int.eq_ofNat_of_zero_le w0
      refine ⟨_, _, _, _, rfl, rfl, SqL.of (b27 _ _ n26S n26L k26), at_ints (k := w) (show w < 3 by omega), ?_⟩
      have s2227 : Bt S L H22 H27 := b23.trans (b24.trans (b25.trans ((Bt.of s26).trans b27)))
      have kc27 := s2227 _ _ ncS ncL kc22
      have kf27 := s2227 _ _ nfS nfL kf22
      have hx : 0 ≤ ([v1, 58 + v2, v3] : List Int).getD w 0 ∧ ([v1, 58 + v2, v3] : List Int).getD w 0 ≤ 255 := by
        match w, w1 with
        | 0, _ => exact ⟨v10, by show v1 ≤ 255; omega⟩
        | 1, _ => exact ⟨by show 0 ≤ 58 + v2; omega, by show 58 + v2 ≤ 255; omega⟩
        | 2, _ => exact ⟨v30, by show v3 ≤ 255; omega⟩
        | n + 3, h => omega
      generalize ([v1, 58 + v2, v3] : List Int).getD w 0 = xv at hx ⊢
      walk_at "go"
      refine ⟨pc, _, _, bf.length, rfl, rfl, kc27, ixN_nat (by rw [List.length_map]; omega), ?_⟩
      rw [← List.map_set]
      generalize x28 : upd H27 pc _ = H28
      have k28 : H28 pc = some (.lst ((fl.set bf.length xv).map V.int)) := by subst x28; exact upd_same
      have kf28 : H28 pf = some (.lst (fl.map V.int)) := by subst x28; rw [upd_ne ncf]; exact kf27
      have st28 : St H28 S L ns27 m27 := by subst x28; exact ⟨by rw [upd_ne (fun z => ncS z.symm)]; exact st27.s, by rw [upd_ne (fun z => ncL z.symm)]; exact st27.l, st27.m, st27.ne⟩
      clear x28 kc27 kf27 kc22 kf22 k26 h26
      walk_at "go"
      refine ⟨pc, _, rfl, .inl (SqL.of k28), ?_⟩
      rw [List.length_map, List.length_set]
      refine ⟨pc, _, bf.length, fl.length, rfl, SqL.of k28, hflB.set hx, by rw [List.length_set]; exact Nat.le_refl _, fun H29 s29 => ?_⟩
      have kf29 := s29 _ _ kf28
      have st29 := st28.same s29
      walk_at "go"
      refine ⟨pf, _, rfl, .inl (SqL.of kf29), fun pe he => ?_⟩
      generalize x30 : upd H29 pe _ = H30
      obtain ⟨s30, k30⟩ : Same H29 H30 ∧ H30 pe = some (.lst (fl.map V.int)) := by subst x30; exact ⟨Same.new he, upd_same⟩
      clear x30
      obtain ⟨neS, neL⟩ := st29.new he
      have st30 := st29.same s30
      walk_at "go"
      dsimp only [gName]
      refine ⟨fun σ H31 => ∃ (ns : List Int) (m : Int) (xs : List Int), xs.length = fl.length ∧ Bys xs ∧ H31 pe = some (.lst (xs.map V.int)) ∧ St H31 S L ns m ∧ σ = [some (.ref a), some (.ref S), some (.int (0 + (i : Int))), some (.str (txtOf ks)), some (.ref pd), some (.ref pb), some (.ref pf), some (.int (bf.length : Int)), some (.ref pe), o9, o10], ?_, ?_⟩
      · walk_at "go"
        refine ⟨small64 (by rw [txt_len]; omega), ?_⟩
        rw [txt_len]
        walk_at "go"
        refine ite2 (fun c => ?_) (fun c => ?_)
        · have c' : (0 : Int) < ks.length := of_decide_eq_true c
          walk_at "go"
          refine ⟨S, L, ns27, m27, 256, rfl, st30, ⟨by decide, by decide⟩, fun v ns31 m31 H31 hv b31 st31 => ?_⟩
          obtain ⟨y, rfl, y0, y1⟩ := hv
          walk_at "go"
          refine ⟨small64 (by rw [txt_len]; omega), ?_⟩
          rw [txt_len]
          walk_at "go"
          refine ⟨S, L, ns31, m31, _, rfl, st31, ⟨c', by omega⟩, fun v ns32 m32 H32 hv b32 st32 => ?_⟩
          obtain ⟨d2, rfl, d20, d21⟩ := hv
          obtain ⟨d2, rfl⟩ := Int.eq_ofNat_of_zero_le d20
          have ke32 := b32 _ _ neS neL (b31 _ _ neS neL k30)
          walk_at "go"
          refine ⟨pe, _, _, bf.length + 1 + d2, rfl, rfl, ke32, (by rw [show (bf.length : Int) + 1 + (d2 : Int) = ((bf.length + 1 + d2 : Nat) : Int) by omega]; exact ixN_nat (by rw [List.length_map]; omega)), ?_⟩
          exact ⟨ns32, m32, fl.set (bf.length + 1 + d2) y, by rw [List.length_set], hflB.set ⟨y0, by omega⟩, by rw [upd_same, List.map_set], ⟨by rw [upd_ne (fun z => neS z.symm)]; exact st32.s, by rw [upd_ne (fun z => neL z.symm)]; exact st32.l, st32.m, st32.ne⟩, rfl⟩
        · exact ⟨ns27, m27, fl, rfl, hflB, k30, st30, rfl⟩
      rintro _ H31 ⟨ns31, m31, xs, hxl, hxB, k31, st31, rfl⟩
      walk_at "go"
      refine ⟨pe, _, rfl, .inl (SqL.of k31), ?_⟩
      rw [List.length_map]
      refine ⟨pe, xs, bf.length, xs.length, rfl, SqL.of k31, hxB, Nat.le_refl _, fun H32 s32 => ?_⟩
      walk_at "go"
      exact ⟨ns31, m31, _, _, _, _, _, _, _, _, _, st31.same s32, rfl⟩
    rintro _ H4 ⟨ns, m, o2, o3, o4, o5, o6, o7, o8, o9, o10, st4, rfl⟩
    walk_at "go"
    exact q _
end
theorem all_mk {l : PySem.W.OpenLaw} {w : World} {K : PySem.W.Frag} {h : Heap} {mg : Str → Option Value} {fa f0 f1 f2 f3 f4 f5 f6 f7 f8 f9 f10 f11 f12 f13 f14 f15 f16 f17 f18 : Addr} (X : K.In h) (G : h.Ns mainGlobals mg) (hfa : mg "law" = some (.ref fa))
    {od0 an0 od1 an1 od2 an2 od3 an3 od4 an4 od5 an5 od6 an6 od7 an7 od8 an8 od9 an9 od10 an10 od11 an11 od12 an12 od13 an13 od14 an14 od15 an15 od16 an16 od17 an17 od18 an18 : Option Addr} {sl0 sl1 sl2 sl3 sl4 sl5 sl6 sl7 sl8 sl9 sl10 sl11 sl12 sl13 sl14 sl15 sl16 sl17 sl18 : Array (Option Value)} {oc0 kV0 dc0 pm0 cd0 ct0 oc1 kV1 dc1 pm1 cd1 ct1 oc2 kV2 dc2 pm2 cd2 ct2 oc3 kV3 dc3 pm3 cd3 ct3 oc4 kV4 dc4 pm4 cd4 ct4 oc5 kV5 dc5 pm5 cd5 ct5 oc6 kV6 dc6 pm6 cd6 ct6 oc7 kV7 dc7 pm7 cd7 ct7 oc8 kV8 dc8 pm8 cd8 ct8 oc9 kV9 dc9 pm9 cd9 ct9 oc10 kV10 dc10 pm10 cd10 ct10 oc11 kV11 dc11 pm11 cd11 ct11 oc12 kV12 dc12 pm12 cd12 ct12 oc13 kV13 dc13 pm13 cd13 ct13 oc14 kV14 dc14 pm14 cd14 ct14 oc15 kV15 dc15 pm15 cd15 ct15 oc16 kV16 dc16 pm16 cd16 ct16 oc17 kV17 dc17 pm17 cd17 ct17 oc18 kV18 dc18 pm18 cd18 ct18 : Value}
    (a0 : PySem.W.nsIn K mainGlobals "character_of" = some (some (.ref f0))) (l0 : K.lookup f0 = some ⟨oc0, od0, .func (PySem.W.fnOf "character_of" "character_of" (defArgs s_character_of) (defBody s_character_of) (defScope s_character_of) .none kV0 dc0 pm0 an0 cd0 ct0), sl0⟩) (c0 : PySem.W.codeIn K cd0 "character_of" = true) (k0 : PySem.W.keepIn K (.ref f0) = true)
    (a1 : PySem.W.nsIn K mainGlobals "write_unsigned" = some (some (.ref f1))) (l1 : K.lookup f1 = some ⟨oc1, od1, .func (PySem.W.fnOf "write_unsigned" "write_unsigned" (defArgs s_write_unsigned) (defBody s_write_unsigned) (defScope s_write_unsigned) .none kV1 dc1 pm1 an1 cd1 ct1), sl1⟩) (c1 : PySem.W.codeIn K cd1 "write_unsigned" = true) (k1 : PySem.W.keepIn K (.ref f1) = true)
    (a2 : PySem.W.nsIn K mainGlobals "byte_at" = some (some (.ref f2))) (l2 : K.lookup f2 = some ⟨oc2, od2, .func (PySem.W.fnOf "byte_at" "byte_at" (defArgs s_byte_at) (defBody s_byte_at) (defScope s_byte_at) .none kV2 dc2 pm2 an2 cd2 ct2), sl2⟩) (c2 : PySem.W.codeIn K cd2 "byte_at" = true) (k2 : PySem.W.keepIn K (.ref f2) = true)
    (a3 : PySem.W.nsIn K mainGlobals "read_groups" = some (some (.ref f3))) (l3 : K.lookup f3 = some ⟨oc3, od3, .func (PySem.W.fnOf "read_groups" "read_groups" (defArgs s_read_groups) (defBody s_read_groups) (defScope s_read_groups) .none kV3 dc3 pm3 an3 cd3 ct3), sl3⟩) (c3 : PySem.W.codeIn K cd3 "read_groups" = true) (k3 : PySem.W.keepIn K (.ref f3) = true)
    (a4 : PySem.W.nsIn K mainGlobals "read_unsigned" = some (some (.ref f4))) (l4 : K.lookup f4 = some ⟨oc4, od4, .func (PySem.W.fnOf "read_unsigned" "read_unsigned" (defArgs s_read_unsigned) (defBody s_read_unsigned) (defScope s_read_unsigned) .none kV4 dc4 pm4 an4 cd4 ct4), sl4⟩) (c4 : PySem.W.codeIn K cd4 "read_unsigned" = true) (k4 : PySem.W.keepIn K (.ref f4) = true)
    (a5 : PySem.W.nsIn K mainGlobals "read_number" = some (some (.ref f5))) (l5 : K.lookup f5 = some ⟨oc5, od5, .func (PySem.W.fnOf "read_number" "read_number" (defArgs s_read_number) (defBody s_read_number) (defScope s_read_number) .none kV5 dc5 pm5 an5 cd5 ct5), sl5⟩) (c5 : PySem.W.codeIn K cd5 "read_number" = true) (k5 : PySem.W.keepIn K (.ref f5) = true)
    (a6 : PySem.W.nsIn K mainGlobals "read_items" = some (some (.ref f6))) (l6 : K.lookup f6 = some ⟨oc6, od6, .func (PySem.W.fnOf "read_items" "read_items" (defArgs s_read_items) (defBody s_read_items) (defScope s_read_items) .none kV6 dc6 pm6 an6 cd6 ct6), sl6⟩) (c6 : PySem.W.codeIn K cd6 "read_items" = true) (k6 : PySem.W.keepIn K (.ref f6) = true)
    (a7 : PySem.W.nsIn K mainGlobals "read_character" = some (some (.ref f7))) (l7 : K.lookup f7 = some ⟨oc7, od7, .func (PySem.W.fnOf "read_character" "read_character" (defArgs s_read_character) (defBody s_read_character) (defScope s_read_character) .none kV7 dc7 pm7 an7 cd7 ct7), sl7⟩) (c7 : PySem.W.codeIn K cd7 "read_character" = true) (k7 : PySem.W.keepIn K (.ref f7) = true)
    (a8 : PySem.W.nsIn K mainGlobals "read_name" = some (some (.ref f8))) (l8 : K.lookup f8 = some ⟨oc8, od8, .func (PySem.W.fnOf "read_name" "read_name" (defArgs s_read_name) (defBody s_read_name) (defScope s_read_name) .none kV8 dc8 pm8 an8 cd8 ct8), sl8⟩) (c8 : PySem.W.codeIn K cd8 "read_name" = true) (k8 : PySem.W.keepIn K (.ref f8) = true)
    (a9 : PySem.W.nsIn K mainGlobals "write_name" = some (some (.ref f9))) (l9 : K.lookup f9 = some ⟨oc9, od9, .func (PySem.W.fnOf "write_name" "write_name" (defArgs s_write_name) (defBody s_write_name) (defScope s_write_name) .none kV9 dc9 pm9 an9 cd9 ct9), sl9⟩) (c9 : PySem.W.codeIn K cd9 "write_name" = true) (k9 : PySem.W.keepIn K (.ref f9) = true)
    (a10 : PySem.W.nsIn K mainGlobals "_law_mixed" = some (some (.ref f10))) (l10 : K.lookup f10 = some ⟨oc10, od10, .func (PySem.W.fnOf "_law_mixed" "_law_mixed" (defArgs s__law_mixed) (defBody s__law_mixed) (defScope s__law_mixed) .none kV10 dc10 pm10 an10 cd10 ct10), sl10⟩) (c10 : PySem.W.codeIn K cd10 "_law_mixed" = true) (k10 : PySem.W.keepIn K (.ref f10) = true)
    (a11 : PySem.W.nsIn K mainGlobals "_law_take" = some (some (.ref f11))) (l11 : K.lookup f11 = some ⟨oc11, od11, .func (PySem.W.fnOf "_law_take" "_law_take" (defArgs s__law_take) (defBody s__law_take) (defScope s__law_take) .none kV11 dc11 pm11 an11 cd11 ct11), sl11⟩) (c11 : PySem.W.codeIn K cd11 "_law_take" = true) (k11 : PySem.W.keepIn K (.ref f11) = true)
    (a12 : PySem.W.nsIn K mainGlobals "_law_char" = some (some (.ref f12))) (l12 : K.lookup f12 = some ⟨oc12, od12, .func (PySem.W.fnOf "_law_char" "_law_char" (defArgs s__law_char) (defBody s__law_char) (defScope s__law_char) .none kV12 dc12 pm12 an12 cd12 ct12), sl12⟩) (c12 : PySem.W.codeIn K cd12 "_law_char" = true) (k12 : PySem.W.keepIn K (.ref f12) = true)
    (a13 : PySem.W.nsIn K mainGlobals "_law_name" = some (some (.ref f13))) (l13 : K.lookup f13 = some ⟨oc13, od13, .func (PySem.W.fnOf "_law_name" "_law_name" (defArgs s__law_name) (defBody s__law_name) (defScope s__law_name) .none kV13 dc13 pm13 an13 cd13 ct13), sl13⟩) (c13 : PySem.W.codeIn K cd13 "_law_name" = true) (k13 : PySem.W.keepIn K (.ref f13) = true)
    (a14 : PySem.W.nsIn K mainGlobals "_law_is_bytes" = some (some (.ref f14))) (l14 : K.lookup f14 = some ⟨oc14, od14, .func (PySem.W.fnOf "_law_is_bytes" "_law_is_bytes" (defArgs s__law_is_bytes) (defBody s__law_is_bytes) (defScope s__law_is_bytes) .none kV14 dc14 pm14 an14 cd14 ct14), sl14⟩) (c14 : PySem.W.codeIn K cd14 "_law_is_bytes" = true) (k14 : PySem.W.keepIn K (.ref f14) = true)
    (a15 : PySem.W.nsIn K mainGlobals "_law_due" = some (some (.ref f15))) (l15 : K.lookup f15 = some ⟨oc15, od15, .func (PySem.W.fnOf "_law_due" "_law_due" (defArgs s__law_due) (defBody s__law_due) (defScope s__law_due) .none kV15 dc15 pm15 an15 cd15 ct15), sl15⟩) (c15 : PySem.W.codeIn K cd15 "_law_due" = true) (k15 : PySem.W.keepIn K (.ref f15) = true)
    (a16 : PySem.W.nsIn K mainGlobals "_law_told" = some (some (.ref f16))) (l16 : K.lookup f16 = some ⟨oc16, od16, .func (PySem.W.fnOf "_law_told" "_law_told" (defArgs s__law_told) (defBody s__law_told) (defScope s__law_told) .none kV16 dc16 pm16 an16 cd16 ct16), sl16⟩) (c16 : PySem.W.codeIn K cd16 "_law_told" = true) (k16 : PySem.W.keepIn K (.ref f16) = true)
    (a17 : PySem.W.nsIn K mainGlobals "_law_right" = some (some (.ref f17))) (l17 : K.lookup f17 = some ⟨oc17, od17, .func (PySem.W.fnOf "_law_right" "_law_right" (defArgs s__law_right) (defBody s__law_right) (defScope s__law_right) .none kV17 dc17 pm17 an17 cd17 ct17), sl17⟩) (c17 : PySem.W.codeIn K cd17 "_law_right" = true) (k17 : PySem.W.keepIn K (.ref f17) = true)
    (a18 : PySem.W.nsIn K mainGlobals "law" = some (some (.ref f18))) (l18 : K.lookup f18 = some ⟨oc18, od18, .func (PySem.W.fnOf "law" "law" (defArgs s_law) (defBody s_law) (defScope s_law) .none kV18 dc18 pm18 an18 cd18 ct18), sl18⟩) (c18 : PySem.W.codeIn K cd18 "law" = true) (k18 : PySem.W.keepIn K (.ref f18) = true)
    (z_abs : PySem.W.nsIn K mainGlobals "abs" = some none)
    (z_bool : PySem.W.nsIn K mainGlobals "bool" = some none)
    (z_int : PySem.W.nsIn K mainGlobals "int" = some none)
    (z_isinstance : PySem.W.nsIn K mainGlobals "isinstance" = some none)
    (z_len : PySem.W.nsIn K mainGlobals "len" = some none)
    (z_list : PySem.W.nsIn K mainGlobals "list" = some none)
    (z_ord : PySem.W.nsIn K mainGlobals "ord" = some none)
    (z_range : PySem.W.nsIn K mainGlobals "range" = some none)
    (z_str : PySem.W.nsIn K mainGlobals "str" = some none)
    (z_tuple : PySem.W.nsIn K mainGlobals "tuple" = some none)
    {cC_HostError cC_DecodeError cI_DecodeError : Addr}
    (sp0 : PySem.W.specialIn K (.builtin "object.__class__") "__get__" = some (some (.builtin "getset_descriptor.__get__"))) (tk0 : PySem.W.takesIn K (.builtin "object.__class__") = some true)
    (aC_HostError : PySem.W.nsIn K mainGlobals "HostError" = some (some (.ref cC_HostError)))
    (aC_DecodeError : PySem.W.nsIn K mainGlobals "DecodeError" = some (some (.ref cC_DecodeError)))
    (ex_HostError : PySem.W.subIn K (.ref cC_HostError) (.type "BaseException") = some true)
    (ty_HostError : PySem.W.typeIn K (.ref cC_HostError) = some (.type "type"))
    (hd_HostError : PySem.W.hasDictIn K cC_HostError = true)
    (ex_DecodeError : PySem.W.subIn K (.ref cC_DecodeError) (.type "BaseException") = some true)
    (ty_DecodeError : PySem.W.typeIn K (.ref cC_DecodeError) = some (.type "type"))
    (hd_DecodeError : PySem.W.hasDictIn K cC_DecodeError = true)
    {nm_DecodeError qn_DecodeError : Str} {N_DecodeError : Addr} {bs_DecodeError : List Value} {sn_DecodeError : List Str} {sub_DecodeError : List Value} {ab_DecodeError : Bool} {col_DecodeError : Option Bool} {dd_DecodeError : Option Addr} {m0_DecodeError m1_DecodeError m2_DecodeError m3_DecodeError m5_DecodeError : Option Value}
    (xl_DecodeError : K.lookup cC_DecodeError = some (excClassObj nm_DecodeError qn_DecodeError cC_DecodeError N_DecodeError bs_DecodeError [.ref cC_HostError, .type "ValueError", .type "Exception", .type "BaseException", .type "object"] true sn_DecodeError sub_DecodeError ab_DecodeError col_DecodeError dd_DecodeError m0_DecodeError m1_DecodeError m2_DecodeError m3_DecodeError m5_DecodeError "ValueError.__new__"))
    (sa_DecodeError : PySem.W.findIn K (.ref cC_DecodeError) "__setattr__" = some (some (.builtin "object.__setattr__")))
    (ga_DecodeError : PySem.W.findIn K (.ref cC_DecodeError) "__getattribute__" = some (some (.builtin "BaseException.__getattribute__")))
    (gg_DecodeError : PySem.W.findIn K (.ref cC_DecodeError) "__getattr__" = some none)
    (ca_DecodeError : PySem.W.findIn K (.ref cC_DecodeError) "__class__" = some (some (.builtin "object.__class__")))
    (kp_DecodeError : PySem.W.keepIn K (.ref cC_DecodeError) = true)
    (mr_DecodeError : PySem.W.mroIn K cC_DecodeError (.type "object") = some true)
    {odI_DecodeError anI_DecodeError : Option Addr} {slI_DecodeError : Array (Option Value)} {ocI_DecodeError kVI_DecodeError dcI_DecodeError pmI_DecodeError cdI_DecodeError ctI_DecodeError : Value}
    (aI_DecodeError : PySem.W.findIn K (.ref cC_DecodeError) "__init__" = some (some (.ref cI_DecodeError))) (tI_DecodeError : PySem.W.typeIn K (.ref cI_DecodeError) = some (.type "function"))
    (lI_DecodeError : K.lookup cI_DecodeError = some ⟨ocI_DecodeError, odI_DecodeError, .func (PySem.W.fnOf "__init__" "DecodeError.__init__" (defArgs i_DecodeError) (defBody i_DecodeError) (defScope i_DecodeError) .none kVI_DecodeError dcI_DecodeError pmI_DecodeError anI_DecodeError cdI_DecodeError ctI_DecodeError), slI_DecodeError⟩) (cdo_DecodeError : PySem.W.codeIn K cdI_DecodeError "DecodeError.__init__" = true) (kI_DecodeError : PySem.W.keepIn K (.ref cI_DecodeError) = true)
    (no_DecodeError_reason : PySem.W.findIn K (.ref cC_DecodeError) "reason" = some none)
    (no_DecodeError_place : PySem.W.findIn K (.ref cC_DecodeError) "place" = some none)
    (sub_DecodeError_HostError : PySem.W.subIn K (.ref cC_DecodeError) (.ref cC_HostError) = some true) (ne_DecodeError_HostError : (Value.ref cC_DecodeError == Value.ref cC_HostError) = false)
    (sub_DecodeError_DecodeError : PySem.W.subIn K (.ref cC_DecodeError) (.ref cC_DecodeError) = some true)
    (sub_DecodeError_VE : PySem.W.subIn K (.ref cC_DecodeError) (.type "ValueError") = some true)
    {ki_MOST_CHARACTERS : Tok} (ai_MOST_CHARACTERS : PySem.W.nsIn K mainGlobals "MOST_CHARACTERS" = some (some (.int 60 ki_MOST_CHARACTERS)))
    {kw_LOW_CHARACTERS : Tok} (aw_LOW_CHARACTERS : PySem.W.nsIn K mainGlobals "LOW_CHARACTERS" = some (some (.str (" !\"#$" : Str) kw_LOW_CHARACTERS)))
    {kw_HIGH_CHARACTERS : Tok} (aw_HIGH_CHARACTERS : PySem.W.nsIn K mainGlobals "HIGH_CHARACTERS" = some (some (.str ("&'()*+,-./0123456789:;<=>?@ABCDEFGHIJKLMNOPQRSTUVWXYZ[\\]^_`abcdefghijklmnopqrstuvwxyz{|}~" : Str) kw_HIGH_CHARACTERS)))
    : ∃ fd : FuncData, (∀ (s : Shared) (v : Value), BindsTo s fd ⟨[v], []⟩ [("script", v)]) ∧ ∀ base : Heap, K.In base → base.Ns mainGlobals mg → FnOk l.prog w K mg base CX0 10 fa fd ["script"] (sp_lawK K) := by
  have e := hfa.symm.trans (PySem.W.mg_of X G a18)
  cases e
  have FI_DecodeError := fun_mk (st := i_DecodeError) lI_DecodeError cdo_DecodeError kI_DecodeError
  have T : Tp w K mg (⟨cC_HostError, cC_DecodeError, cI_DecodeError, (PySem.W.fnOf "__init__" "DecodeError.__init__" (defArgs i_DecodeError) (defBody i_DecodeError) (defScope i_DecodeError) .none kVI_DecodeError dcI_DecodeError pmI_DecodeError anI_DecodeError cdI_DecodeError ctI_DecodeError), f7⟩ : Cs) := ⟨PySem.W.mg_none_of X G z_abs, PySem.W.mg_none_of X G z_bool, PySem.W.mg_none_of X G z_int, PySem.W.mg_none_of X G z_isinstance, PySem.W.mg_none_of X G z_len, PySem.W.mg_none_of X G z_list, PySem.W.mg_none_of X G z_ord, PySem.W.mg_none_of X G z_range, PySem.W.mg_none_of X G z_str, PySem.W.mg_none_of X G z_tuple, PySem.W.mg_of X G aC_HostError, PySem.W.mg_of X G aC_DecodeError, ⟨PySem.W.mg_of X G aC_DecodeError, ⟨⟨nm_DecodeError, qn_DecodeError, N_DecodeError, bs_DecodeError, _, sn_DecodeError, sub_DecodeError, ab_DecodeError, col_DecodeError, dd_DecodeError, m0_DecodeError, m1_DecodeError, m2_DecodeError, m3_DecodeError, m5_DecodeError, xl_DecodeError, by rfl⟩, sa_DecodeError, ex_DecodeError, ty_DecodeError, kp_DecodeError⟩, ga_DecodeError, gg_DecodeError, hd_DecodeError, ca_DecodeError, sp0, tk0, mr_DecodeError⟩, aI_DecodeError, tI_DecodeError, FI_DecodeError, FI_DecodeError.binds (ps := ["self", "reason", "place"]) fun _ _ _ _ _ _ us hl => match us, hl with | [_, _, _], _ => rfl, no_DecodeError_reason, no_DecodeError_place, kit_two ne_DecodeError_HostError hd_HostError ty_HostError sub_DecodeError_HostError, PySem.W.exm_ref ex_HostError hd_HostError ty_HostError sub_DecodeError_HostError, kit_self, PySem.W.exm_ref ex_DecodeError hd_DecodeError ty_DecodeError sub_DecodeError_DecodeError, kit_ve sub_DecodeError_VE, ⟨_, PySem.W.mg_of X G ai_MOST_CHARACTERS⟩, ⟨_, PySem.W.mg_of X G aw_LOW_CHARACTERS⟩, ⟨_, PySem.W.mg_of X G aw_HIGH_CHARACTERS⟩, PySem.W.mg_of X G a7⟩
  have F0 := fun_mk (st := s_character_of) l0 c0 k0
  have D_character_of : Def K mg "character_of" s_character_of ["code"] := ⟨_, _, F0, PySem.W.mg_of X G a0, F0.binds (ps := ["code"]) fun _ _ _ _ _ _ us hl => match us, hl with | [_], _ => rfl⟩
  have F1 := fun_mk (st := s_write_unsigned) l1 c1 k1
  have D_write_unsigned : Def K mg "write_unsigned" s_write_unsigned ["number"] := ⟨_, _, F1, PySem.W.mg_of X G a1, F1.binds (ps := ["number"]) fun _ _ _ _ _ _ us hl => match us, hl with | [_], _ => rfl⟩
  have F2 := fun_mk (st := s_byte_at) l2 c2 k2
  have D_byte_at : Def K mg "byte_at" s_byte_at ["data", "place", "end"] := ⟨_, _, F2, PySem.W.mg_of X G a2, F2.binds (ps := ["data", "place", "end"]) fun _ _ _ _ _ _ us hl => match us, hl with | [_, _, _], _ => rfl⟩
  have F3 := fun_mk (st := s_read_groups) l3 c3 k3
  have D_read_groups : Def K mg "read_groups" s_read_groups ["data", "place", "end", "bits"] := ⟨_, _, F3, PySem.W.mg_of X G a3, F3.binds (ps := ["data", "place", "end", "bits"]) fun _ _ _ _ _ _ us hl => match us, hl with | [_, _, _, _], _ => rfl⟩
  have F4 := fun_mk (st := s_read_unsigned) l4 c4 k4
  have D_read_unsigned : Def K mg "read_unsigned" s_read_unsigned ["data", "place", "end", "bits"] := ⟨_, _, F4, PySem.W.mg_of X G a4, F4.binds (ps := ["data", "place", "end", "bits"]) fun _ _ _ _ _ _ us hl => match us, hl with | [_, _, _, _], _ => rfl⟩
  have F5 := fun_mk (st := s_read_number) l5 c5 k5
  have D_read_number : Def K mg "read_number" s_read_number ["data", "place", "end"] := ⟨_, _, F5, PySem.W.mg_of X G a5, F5.binds (ps := ["data", "place", "end"]) fun _ _ _ _ _ _ us hl => match us, hl with | [_, _, _], _ => rfl⟩
  have F6 := fun_mk (st := s_read_items) l6 c6 k6
  have D_read_items : Def K mg "read_items" s_read_items ["data", "place", "end", "count", "read_item"] := ⟨_, _, F6, PySem.W.mg_of X G a6, F6.binds (ps := ["data", "place", "end", "count", "read_item"]) fun _ _ _ _ _ _ us hl => match us, hl with | [_, _, _, _, _], _ => rfl⟩
  have F7 := fun_mk (st := s_read_character) l7 c7 k7
  have D_read_character : Def K mg "read_character" s_read_character ["data", "place", "end"] := ⟨_, _, F7, PySem.W.mg_of X G a7, F7.binds (ps := ["data", "place", "end"]) fun _ _ _ _ _ _ us hl => match us, hl with | [_, _, _], _ => rfl⟩
  have F8 := fun_mk (st := s_read_name) l8 c8 k8
  have D_read_name : Def K mg "read_name" s_read_name ["data", "place", "end"] := ⟨_, _, F8, PySem.W.mg_of X G a8, F8.binds (ps := ["data", "place", "end"]) fun _ _ _ _ _ _ us hl => match us, hl with | [_, _, _], _ => rfl⟩
  have F9 := fun_mk (st := s_write_name) l9 c9 k9
  have D_write_name : Def K mg "write_name" s_write_name ["name"] := ⟨_, _, F9, PySem.W.mg_of X G a9, F9.binds (ps := ["name"]) fun _ _ _ _ _ _ us hl => match us, hl with | [_], _ => rfl⟩
  have F10 := fun_mk (st := s__law_mixed) l10 c10 k10
  have D__law_mixed : Def K mg "_law_mixed" s__law_mixed ["cell"] := ⟨_, _, F10, PySem.W.mg_of X G a10, F10.binds (ps := ["cell"]) fun _ _ _ _ _ _ us hl => match us, hl with | [_], _ => rfl⟩
  have F11 := fun_mk (st := s__law_take) l11 c11 k11
  have D__law_take : Def K mg "_law_take" s__law_take ["state", "limit"] := ⟨_, _, F11, PySem.W.mg_of X G a11, F11.binds (ps := ["state", "limit"]) fun _ _ _ _ _ _ us hl => match us, hl with | [_, _], _ => rfl⟩
  have F12 := fun_mk (st := s__law_char) l12 c12 k12
  have D__law_char : Def K mg "_law_char" s__law_char ["number"] := ⟨_, _, F12, PySem.W.mg_of X G a12, F12.binds (ps := ["number"]) fun _ _ _ _ _ _ us hl => match us, hl with | [_], _ => rfl⟩
  have F13 := fun_mk (st := s__law_name) l13 c13 k13
  have D__law_name : Def K mg "_law_name" s__law_name ["state"] := ⟨_, _, F13, PySem.W.mg_of X G a13, F13.binds (ps := ["state"]) fun _ _ _ _ _ _ us hl => match us, hl with | [_], _ => rfl⟩
  have F14 := fun_mk (st := s__law_is_bytes) l14 c14 k14
  have D__law_is_bytes : Def K mg "_law_is_bytes" s__law_is_bytes ["data"] := ⟨_, _, F14, PySem.W.mg_of X G a14, F14.binds (ps := ["data"]) fun _ _ _ _ _ _ us hl => match us, hl with | [_], _ => rfl⟩
  have F15 := fun_mk (st := s__law_due) l15 c15 k15
  have D__law_due : Def K mg "_law_due" s__law_due ["data", "place", "end"] := ⟨_, _, F15, PySem.W.mg_of X G a15, F15.binds (ps := ["data", "place", "end"]) fun _ _ _ _ _ _ us hl => match us, hl with | [_, _, _], _ => rfl⟩
  have F16 := fun_mk (st := s__law_told) l16 c16 k16
  have D__law_told : Def K mg "_law_told" s__law_told ["data", "place", "end"] := ⟨_, _, F16, PySem.W.mg_of X G a16, F16.binds (ps := ["data", "place", "end"]) fun _ _ _ _ _ _ us hl => match us, hl with | [_, _, _], _ => rfl⟩
  have F17 := fun_mk (st := s__law_right) l17 c17 k17
  have D__law_right : Def K mg "_law_right" s__law_right ["data", "place", "end"] := ⟨_, _, F17, PySem.W.mg_of X G a17, F17.binds (ps := ["data", "place", "end"]) fun _ _ _ _ _ _ us hl => match us, hl with | [_, _, _], _ => rfl⟩
  have F18 := fun_mk (st := s_law) l18 c18 k18
  refine ⟨PySem.W.fnOf "law" "law" (defArgs s_law) (defBody s_law) (defScope s_law) .none kV18 dc18 pm18 an18 cd18 ct18, fun s v => .of_eq rfl, fun base _ _ => ?_⟩
  have C__law_mixed : Cal l.prog w K mg base CX0 1 "_law_mixed" (sp__law_mixed K (⟨cC_HostError, cC_DecodeError, cI_DecodeError, (PySem.W.fnOf "__init__" "DecodeError.__init__" (defArgs i_DecodeError) (defBody i_DecodeError) (defScope i_DecodeError) .none kVI_DecodeError dcI_DecodeError pmI_DecodeError anI_DecodeError cdI_DecodeError ctI_DecodeError), f7⟩ : Cs)) := c__law_mixed D__law_mixed T 
  have C__law_take : Cal l.prog w K mg base CX0 2 "_law_take" (sp__law_take K (⟨cC_HostError, cC_DecodeError, cI_DecodeError, (PySem.W.fnOf "__init__" "DecodeError.__init__" (defArgs i_DecodeError) (defBody i_DecodeError) (defScope i_DecodeError) .none kVI_DecodeError dcI_DecodeError pmI_DecodeError anI_DecodeError cdI_DecodeError ctI_DecodeError), f7⟩ : Cs)) := c__law_take D__law_take T C__law_mixed
  have C__law_char : Cal l.prog w K mg base CX0 1 "_law_char" (sp__law_char K (⟨cC_HostError, cC_DecodeError, cI_DecodeError, (PySem.W.fnOf "__init__" "DecodeError.__init__" (defArgs i_DecodeError) (defBody i_DecodeError) (defScope i_DecodeError) .none kVI_DecodeError dcI_DecodeError pmI_DecodeError anI_DecodeError cdI_DecodeError ctI_DecodeError), f7⟩ : Cs)) := c__law_char D__law_char T 
  have C__law_name : Cal l.prog w K mg base CX0 3 "_law_name" (sp__law_name K (⟨cC_HostError, cC_DecodeError, cI_DecodeError, (PySem.W.fnOf "__init__" "DecodeError.__init__" (defArgs i_DecodeError) (defBody i_DecodeError) (defScope i_DecodeError) .none kVI_DecodeError dcI_DecodeError pmI_DecodeError anI_DecodeError cdI_DecodeError ctI_DecodeError), f7⟩ : Cs)) := c__law_name D__law_name T C__law_take C__law_char
  have C_write_unsigned : Cal l.prog w K mg base CX0 1 "write_unsigned" (sp_write_unsigned K (⟨cC_HostError, cC_DecodeError, cI_DecodeError, (PySem.W.fnOf "__init__" "DecodeError.__init__" (defArgs i_DecodeError) (defBody i_DecodeError) (defScope i_DecodeError) .none kVI_DecodeError dcI_DecodeError pmI_DecodeError anI_DecodeError cdI_DecodeError ctI_DecodeError), f7⟩ : Cs)) := c_write_unsigned D_write_unsigned T 
  have C_write_name : Cal l.prog w K mg base CX0 2 "write_name" (sp_write_name K (⟨cC_HostError, cC_DecodeError, cI_DecodeError, (PySem.W.fnOf "__init__" "DecodeError.__init__" (defArgs i_DecodeError) (defBody i_DecodeError) (defScope i_DecodeError) .none kVI_DecodeError dcI_DecodeError pmI_DecodeError anI_DecodeError cdI_DecodeError ctI_DecodeError), f7⟩ : Cs)) := c_write_name D_write_name T C_write_unsigned
  have C__law_due : Cal l.prog w K mg base CX0 2 "_law_due" (sp__law_due K (⟨cC_HostError, cC_DecodeError, cI_DecodeError, (PySem.W.fnOf "__init__" "DecodeError.__init__" (defArgs i_DecodeError) (defBody i_DecodeError) (defScope i_DecodeError) .none kVI_DecodeError dcI_DecodeError pmI_DecodeError anI_DecodeError cdI_DecodeError ctI_DecodeError), f7⟩ : Cs)) := c__law_due D__law_due T C__law_char
  have C_byte_at : Cal l.prog w K mg base (L2.CX l.prog w) 3 "byte_at" (sp_byte_at K (⟨cC_HostError, cC_DecodeError, cI_DecodeError, (PySem.W.fnOf "__init__" "DecodeError.__init__" (defArgs i_DecodeError) (defBody i_DecodeError) (defScope i_DecodeError) .none kVI_DecodeError dcI_DecodeError pmI_DecodeError anI_DecodeError cdI_DecodeError ctI_DecodeError), f7⟩ : Cs)) := c_byte_at D_byte_at T 
  have C_read_groups : Cal l.prog w K mg base (L2.CX l.prog w) 4 "read_groups" (sp_read_groups K (⟨cC_HostError, cC_DecodeError, cI_DecodeError, (PySem.W.fnOf "__init__" "DecodeError.__init__" (defArgs i_DecodeError) (defBody i_DecodeError) (defScope i_DecodeError) .none kVI_DecodeError dcI_DecodeError pmI_DecodeError anI_DecodeError cdI_DecodeError ctI_DecodeError), f7⟩ : Cs)) := c_read_groups D_read_groups T C_byte_at
  have C_read_unsigned : Cal l.prog w K mg base (L2.CX l.prog w) 5 "read_unsigned" (sp_read_unsigned K (⟨cC_HostError, cC_DecodeError, cI_DecodeError, (PySem.W.fnOf "__init__" "DecodeError.__init__" (defArgs i_DecodeError) (defBody i_DecodeError) (defScope i_DecodeError) .none kVI_DecodeError dcI_DecodeError pmI_DecodeError anI_DecodeError cdI_DecodeError ctI_DecodeError), f7⟩ : Cs)) := c_read_unsigned D_read_unsigned T C_read_groups
  have C_read_number : Cal l.prog w K mg base (L2.CX l.prog w) 6 "read_number" (sp_read_number K (⟨cC_HostError, cC_DecodeError, cI_DecodeError, (PySem.W.fnOf "__init__" "DecodeError.__init__" (defArgs i_DecodeError) (defBody i_DecodeError) (defScope i_DecodeError) .none kVI_DecodeError dcI_DecodeError pmI_DecodeError anI_DecodeError cdI_DecodeError ctI_DecodeError), f7⟩ : Cs)) := c_read_number D_read_number T C_read_unsigned
  have C_character_of : Cal l.prog w K mg base CX0 1 "character_of" (sp_character_of K (⟨cC_HostError, cC_DecodeError, cI_DecodeError, (PySem.W.fnOf "__init__" "DecodeError.__init__" (defArgs i_DecodeError) (defBody i_DecodeError) (defScope i_DecodeError) .none kVI_DecodeError dcI_DecodeError pmI_DecodeError anI_DecodeError cdI_DecodeError ctI_DecodeError), f7⟩ : Cs)) := c_character_of D_character_of T 
  have C_read_character : Cal l.prog w K mg base (L2.CX l.prog w) 4 "read_character" (sp_read_character K (⟨cC_HostError, cC_DecodeError, cI_DecodeError, (PySem.W.fnOf "__init__" "DecodeError.__init__" (defArgs i_DecodeError) (defBody i_DecodeError) (defScope i_DecodeError) .none kVI_DecodeError dcI_DecodeError pmI_DecodeError anI_DecodeError cdI_DecodeError ctI_DecodeError), f7⟩ : Cs)) := c_read_character D_read_character T C_character_of C_byte_at
  have C_read_items : Cal l.prog w K mg base (L2.CX l.prog w) 5 "read_items" (sp_read_items K (⟨cC_HostError, cC_DecodeError, cI_DecodeError, (PySem.W.fnOf "__init__" "DecodeError.__init__" (defArgs i_DecodeError) (defBody i_DecodeError) (defScope i_DecodeError) .none kVI_DecodeError dcI_DecodeError pmI_DecodeError anI_DecodeError cdI_DecodeError ctI_DecodeError), f7⟩ : Cs)) := c_read_items D_read_items T C_read_character
  have C_read_name : Cal l.prog w K mg base (L2.CX l.prog w) 7 "read_name" (sp_read_name K (⟨cC_HostError, cC_DecodeError, cI_DecodeError, (PySem.W.fnOf "__init__" "DecodeError.__init__" (defArgs i_DecodeError) (defBody i_DecodeError) (defScope i_DecodeError) .none kVI_DecodeError dcI_DecodeError pmI_DecodeError anI_DecodeError cdI_DecodeError ctI_DecodeError), f7⟩ : Cs)) := c_read_name D_read_name T C_read_number C_read_items
  have C__law_told : Cal l.prog w K mg base CX0 8 "_law_told" (sp__law_told K (⟨cC_HostError, cC_DecodeError, cI_DecodeError, (PySem.W.fnOf "__init__" "DecodeError.__init__" (defArgs i_DecodeError) (defBody i_DecodeError) (defScope i_DecodeError) .none kVI_DecodeError dcI_DecodeError pmI_DecodeError anI_DecodeError cdI_DecodeError ctI_DecodeError), f7⟩ : Cs)) := c__law_told D__law_told T C_read_name
  have C__law_right : Cal l.prog w K mg base CX0 9 "_law_right" (sp__law_right K (⟨cC_HostError, cC_DecodeError, cI_DecodeError, (PySem.W.fnOf "__init__" "DecodeError.__init__" (defArgs i_DecodeError) (defBody i_DecodeError) (defScope i_DecodeError) .none kVI_DecodeError dcI_DecodeError pmI_DecodeError anI_DecodeError cdI_DecodeError ctI_DecodeError), f7⟩ : Cs)) := c__law_right D__law_right T C__law_due C__law_told
  have C__law_is_bytes : Cal l.prog w K mg base CX0 1 "_law_is_bytes" (sp__law_is_bytes K (⟨cC_HostError, cC_DecodeError, cI_DecodeError, (PySem.W.fnOf "__init__" "DecodeError.__init__" (defArgs i_DecodeError) (defBody i_DecodeError) (defScope i_DecodeError) .none kVI_DecodeError dcI_DecodeError pmI_DecodeError anI_DecodeError cdI_DecodeError ctI_DecodeError), f7⟩ : Cs)) := c__law_is_bytes D__law_is_bytes T 
  exact c_law F18 T C__law_name C_write_name C__law_right C__law_take C__law_is_bytes
theorem walk {l : PySem.W.OpenLaw} {q : Program} {loose : List Str} {XP : (Str → Option Value) → Heap → Prop} {YP : World → Heap → Prop} {d : DefRec} {K : Params → PySem.W.Frag} (hn : l.most = some 63) (hdf : d.params.defaults = [])
    (hY : ∀ (w : World) (h : Heap), YP w h → (K w.params).In h)
    (F : ∀ (w : World) (mg : Str → Option Value) (fa : Addr) (h : Heap), (K w.params).In h → h.Ns mainGlobals mg → mg d.name = some (.ref fa) →
      ∃ fd : FuncData, (∀ (s : Shared) (u : Value), BindsTo s fd ⟨[u], []⟩ [("script", u)]) ∧ ∀ base : Heap, (K w.params).In base → base.Ns mainGlobals mg → FnOk l.prog w (K w.params) mg base CX0 10 fa fd ["script"] (sp_lawK (K w.params))) :
    PySem.W.WalkO q loose XP YP l.row.toRowW d [] (fun f vs => PySem.call f vs) :=
  L2.walk_of (n := 63) (k := 10) (x := "script") (CX := fun _ => CX0) (sp := fun w => sp_lawK (K w.params)) hn (by decide) hdf ⟨rfl, by decide, by decide⟩ hY F (fun _ _ a ns hl _ hS => ⟨a, ns, rfl, hS, hl, fun _ => rfl⟩) fun _ _ _ _ _ z => z
end V
open PySem PySem.W PyProof.Rows
set_option maxRecDepth 100000 in
set_option maxHeartbeats 0 in
theorem PySem.Challenge.cw_wasmhost_k13_names_holds : PySem.Challenge.rw_wasmhost_k13_names.Holds := by
  w_on; o_law; k_head; (case hw => w_witness2)
  k_fill
  refine V.walk (l := PySem.Challenge.rw_wasmhost_k13_names) rfl rfl (fun w h Y => PySem.W.kIn_of Y) ?F
  case F =>
    intro w mg fa h KX G hmg
    refine' V.all_mk KX G hmg ?a0 ?l0 ?c0 ?k0 ?a1 ?l1 ?c1 ?k1 ?a2 ?l2 ?c2 ?k2 ?a3 ?l3 ?c3 ?k3 ?a4 ?l4 ?c4 ?k4 ?a5 ?l5 ?c5 ?k5 ?a6 ?l6 ?c6 ?k6 ?a7 ?l7 ?c7 ?k7 ?a8 ?l8 ?c8 ?k8 ?a9 ?l9 ?c9 ?k9 ?a10 ?l10 ?c10 ?k10 ?a11 ?l11 ?c11 ?k11 ?a12 ?l12 ?c12 ?k12 ?a13 ?l13 ?c13 ?k13 ?a14 ?l14 ?c14 ?k14 ?a15 ?l15 ?c15 ?k15 ?a16 ?l16 ?c16 ?k16 ?a17 ?l17 ?c17 ?k17 ?a18 ?l18 ?c18 ?k18 ?z_abs ?z_bool ?z_int ?z_isinstance ?z_len ?z_list ?z_ord ?z_range ?z_str ?z_tuple ?sp0 ?tk0 ?aC_HostError ?aC_DecodeError ?ex_HostError ?ty_HostError ?hd_HostError ?ex_DecodeError ?ty_DecodeError ?hd_DecodeError ?xl_DecodeError ?sa_DecodeError ?ga_DecodeError ?gg_DecodeError ?ca_DecodeError ?kp_DecodeError ?mr_DecodeError ?aI_DecodeError ?tI_DecodeError ?lI_DecodeError ?cdo_DecodeError ?kI_DecodeError ?no_DecodeError_reason ?no_DecodeError_place ?sub_DecodeError_HostError ?ne_DecodeError_HostError ?sub_DecodeError_DecodeError ?sub_DecodeError_VE ?ai_MOST_CHARACTERS ?aw_LOW_CHARACTERS ?aw_HIGH_CHARACTERS
    (case a0 => k_is)
    (case l0 => k_is)
    (case c0 => k_is)
    (case k0 => k_is)
    (case a1 => k_is)
    (case l1 => k_is)
    (case c1 => k_is)
    (case k1 => k_is)
    (case a2 => k_is)
    (case l2 => k_is)
    (case c2 => k_is)
    (case k2 => k_is)
    (case a3 => k_is)
    (case l3 => k_is)
    (case c3 => k_is)
    (case k3 => k_is)
    (case a4 => k_is)
    (case l4 => k_is)
    (case c4 => k_is)
    (case k4 => k_is)
    (case a5 => k_is)
    (case l5 => k_is)
    (case c5 => k_is)
    (case k5 => k_is)
    (case a6 => k_is)
    (case l6 => k_is)
    (case c6 => k_is)
    (case k6 => k_is)
    (case a7 => k_is)
    (case l7 => k_is)
    (case c7 => k_is)
    (case k7 => k_is)
    (case a8 => k_is)
    (case l8 => k_is)
    (case c8 => k_is)
    (case k8 => k_is)
    (case a9 => k_is)
    (case l9 => k_is)
    (case c9 => k_is)
    (case k9 => k_is)
    (case a10 => k_is)
    (case l10 => k_is)
    (case c10 => k_is)
    (case k10 => k_is)
    (case a11 => k_is)
    (case l11 => k_is)
    (case c11 => k_is)
    (case k11 => k_is)
    (case a12 => k_is)
    (case l12 => k_is)
    (case c12 => k_is)
    (case k12 => k_is)
    (case a13 => k_is)
    (case l13 => k_is)
    (case c13 => k_is)
    (case k13 => k_is)
    (case a14 => k_is)
    (case l14 => k_is)
    (case c14 => k_is)
    (case k14 => k_is)
    (case a15 => k_is)
    (case l15 => k_is)
    (case c15 => k_is)
    (case k15 => k_is)
    (case a16 => k_is)
    (case l16 => k_is)
    (case c16 => k_is)
    (case k16 => k_is)
    (case a17 => k_is)
    (case l17 => k_is)
    (case c17 => k_is)
    (case k17 => k_is)
    (case a18 => k_is)
    (case l18 => k_is)
    (case c18 => k_is)
    (case k18 => k_is)
    (case z_abs => k_is)
    (case z_bool => k_is)
    (case z_int => k_is)
    (case z_isinstance => k_is)
    (case z_len => k_is)
    (case z_list => k_is)
    (case z_ord => k_is)
    (case z_range => k_is)
    (case z_str => k_is)
    (case z_tuple => k_is)
    (case sp0 => k_is)
    (case tk0 => k_is)
    (case aC_HostError => k_is)
    (case aC_DecodeError => k_is)
    (case ex_HostError => k_is)
    (case ty_HostError => k_is)
    (case hd_HostError => k_is)
    (case ex_DecodeError => k_is)
    (case ty_DecodeError => k_is)
    (case hd_DecodeError => k_is)
    (case xl_DecodeError => k_is)
    (case sa_DecodeError => k_is)
    (case ga_DecodeError => k_is)
    (case gg_DecodeError => k_is)
    (case ca_DecodeError => k_is)
    (case kp_DecodeError => k_is)
    (case mr_DecodeError => k_is)
    (case aI_DecodeError => k_is)
    (case tI_DecodeError => k_is)
    (case lI_DecodeError => k_is)
    (case cdo_DecodeError => k_is)
    (case kI_DecodeError => k_is)
    (case no_DecodeError_reason => k_is)
    (case no_DecodeError_place => k_is)
    (case sub_DecodeError_HostError => first | rfl | k_is)
    (case ne_DecodeError_HostError => decide)
    (case sub_DecodeError_DecodeError => first | rfl | k_is)
    (case sub_DecodeError_VE => first | rfl | k_is)
    (case ai_MOST_CHARACTERS => k_is)
    (case aw_LOW_CHARACTERS => k_is)
    (case aw_HIGH_CHARACTERS => k_is)
#print axioms PySem.Challenge.cw_wasmhost_k13_names_holds


