import PyProof.Rows.All
import Wide.All
import OpenK.AllK
import Wide.FinOn
import KE.KBits
import KE.BitLaws
import HandS.ForMost
import HandS.ForExc
import HandS.IsInst
import HandS.Wide
import HandS.WideBits
import HandS.WideMore
import HandS.Flow
import HandS.ExcInit
import HandS.Codes
import HandS.ExcField
import HandS.ExcIs
import KE.KExcIs
import KE.KIsAll
import HandS.More
import HandS.Dict
import HandS.CallLocal
import HandS.Zip
import HandS.Text
import HandS.Conv
import HandS.Iter
import HandS.Style
import PySem.Challenge.RW_wasmhost_k82_narrow_finds_where_claims_p
set_option Elab.async false
set_option linter.all false
set_option maxRecDepth 100000
set_option maxHeartbeats 4000000
namespace V
open PySem PySem.Spec PyProof.Rows L2
/-! ### a def that may be called by its name -/
structure Cal (P : Program) (w : World) (K : PySem.W.Frag) (mg : Str → Option Value) (base : Heap) (C : CXT) (k : Nat) (x : Str) (sp : Sp) : Prop where
  ex : ∃ (f : Addr) (fd : FuncData) (ps : List Str), FnOk P w K mg base C k f fd ps sp ∧ mg x = some (.ref f) ∧ PySem.W.keepIn K (.ref f) = true ∧ Binds K fd ps []
section
variable {P : Program} {w : World} {K : PySem.W.Frag} {mg : Str → Option Value} {base : Heap} {k : Nat} {x : Str} {sp sp' : Sp} {C : CXT}
theorem Cal.mono (c : Cal P w K mg base C k x sp) {j : Nat} (h : k ≤ j) : Cal P w K mg base C j x sp := by
  obtain ⟨f, fd, ps, F, m, kp, b⟩ := c.ex
  exact ⟨f, fd, ps, F.mono h, m, kp, b⟩
theorem Cal.imp (c : Cal P w K mg base C k x sp) (h : ∀ vs H Q E, sp' vs H Q E → sp vs H Q E) : Cal P w K mg base C k x sp' := by
  obtain ⟨f, fd, ps, F, m, kp, b⟩ := c.ex
  exact ⟨f, fd, ps, F.imp h, m, kp, b⟩
/-- a def as the top leaves it -/
structure Def (K : PySem.W.Frag) (mg : Str → Option Value) (x : Str) (st : Stmt) (ps : List Str) : Prop where
  ex : ∃ (f : Addr) (fd : FuncData), L2.Fun K x x st f fd ∧ mg x = some (.ref f) ∧ Binds K fd ps []
theorem Def.ok {st : Stmt} {N ps : List Str} (D : Def K mg x st ps) (S : FnScope N ps (defScope st)) (len : ∀ vs H Q E, sp vs H Q E → vs.length = ps.length)
    (hbody : ∀ (f : Addr) (cdv : Value) (A : Around) (outer : List Env) (s : Shared) (H : Hp) (vs : List V) (Q : VK) (E : XK), Room k (A.deeper (envOfC x (defScope st) s.heap.objs.size f cdv)) → sp vs H Q E →
      ∃ t, PSs (cxOf CX0 P w K mg base N x (defScope st) f cdv A outer s H E).nox (defBody st) t ∧ t { nx := fun _ H' => Q .non H', rt := Q } (start N vs) H) : Cal P w K mg base CX0 (k + 1) x sp := by
  obtain ⟨f, fd, F, m, b⟩ := D.ex
  exact ⟨f, fd, ps, F.ok S len (hbody f), m, F.kp, b⟩
theorem Def.okX {st : Stmt} {N ps : List Str} (D : Def K mg x st ps) (S : FnScope N ps (defScope st)) (len : ∀ vs H Q E, sp vs H Q E → vs.length = ps.length)
    (hbody : ∀ (f : Addr) (cdv : Value) (A : Around) (outer : List Env) (s : Shared) (H : Hp) (vs : List V) (Q : VK) (E : XK), Room k (A.deeper (envOfC x (defScope st) s.heap.objs.size f cdv)) → sp vs H Q E →
      ∃ t, PSs (cxOf (L2.CX P w) P w K mg base N x (defScope st) f cdv A outer s H E) (defBody st) t ∧ t { nx := fun _ H' => Q .non H', rt := Q } (start N vs) H) : Cal P w K mg base (L2.CX P w) (k + 1) x sp := by
  obtain ⟨f, fd, F, m, b⟩ := D.ex
  exact ⟨f, fd, ps, F.okX S len (hbody f), m, F.kp, b⟩
end
section
variable {X : Cx} {k j : Nat} {x : Str} {sp : Sp} {p pos : Pos} {e : Expr} {es : List Expr} {t : TA} {C : CXT} {E : XK}
theorem pe_cE (c : Cal X.prog X.w X.K X.mg X.base C k x sp) (hr : Room j X.A) (hk : k ≤ j) (hx : Passes C X E) (hg : Gl X x) (ha : PA X (e :: es) t)
    (hdb : (x == ("__debug__" : Str)) = false := by decide) (he : starEach (e :: es) X.env = (false, eval e X.env) :: starEach es X.env := by rfl) (hpl : (backTo pos (starEach es X.env)).any (·.1) = false := by rfl) :
    PE X (.Call (.Name x p) (e :: es) [] pos) (tCall sp [] E t) := by
  obtain ⟨f, fd, ps, F, hm, kp, b⟩ := c.ex
  exact pe_call F (hr.mono hk) hg hm kp b .nil hx ha hdb he hpl
theorem pe_cE0 (c : Cal X.prog X.w X.K X.mg X.base C k x sp) (hr : Room j X.A) (hk : k ≤ j) (hx : Passes C X E) (hg : Gl X x)
    (hdb : (x == ("__debug__" : Str)) = false := by decide) : PE X (.Call (.Name x p) [] [] pos) (tCall sp [] E tNil) := by
  obtain ⟨f, fd, ps, F, hm, kp, b⟩ := c.ex
  exact pe_call0 F (hr.mono hk) hg hm kp b .nil hx hdb
/-- a def that lets nothing out -/
theorem pe_c (c : Cal X.prog X.w X.K X.mg X.base CX0 k x sp) (hr : Room j X.A) (hk : k ≤ j) (hg : Gl X x) (ha : PA X (e :: es) t)
    (hdb : (x == ("__debug__" : Str)) = false := by decide) (he : starEach (e :: es) X.env = (false, eval e X.env) :: starEach es X.env := by rfl) (hpl : (backTo pos (starEach es X.env)).any (·.1) = false := by rfl) :
    PE X (.Call (.Name x p) (e :: es) [] pos) (tCall sp [] E0 t) := pe_cE c hr hk pass0 hg ha hdb he hpl
theorem pe_c0 (c : Cal X.prog X.w X.K X.mg X.base CX0 k x sp) (hr : Room j X.A) (hk : k ≤ j) (hg : Gl X x)
    (hdb : (x == ("__debug__" : Str)) = false := by decide) : PE X (.Call (.Name x p) [] [] pos) (tCall sp [] E0 tNil) := pe_cE0 c hr hk pass0 hg hdb
end
section
variable {X : Cx} {k j : Nat} {x : Str} {sp : Sp} {p pos : Pos} {e : Expr} {es : List Expr} {t : TA} {C : CXT} {E : L2.St → XK}
/-- a call within a try -/
theorem pe_cS (c : Cal X.prog X.w X.K X.mg X.base C k x sp) (hr : Room j X.A) (hk : k ≤ j) (hg : Gl X x) (hx : ∀ σ, PassesAt C X σ (E σ)) (ha : PA X (e :: es) t)
    (hdb : (x == ("__debug__" : Str)) = false := by decide) (he : starEach (e :: es) X.env = (false, eval e X.env) :: starEach es X.env := by rfl) (hpl : (backTo pos (starEach es X.env)).any (·.1) = false := by rfl) : PE X (.Call (.Name x p) (e :: es) [] pos) (tCallS sp E t) := by
  obtain ⟨f, fd, ps, F, hm, kp, b⟩ := c.ex
  exact pe_callS F (hr.mono hk) hg hm kp b hx ha hdb he hpl
end
theorem hu64 {A : Around} {k : Nat} (hr : Room k A) : A.units + 64 < cLine := by have := hr.un; omega
/-! ### numbers -/
theorem small64 {n : Nat} (h : n ≤ 1000000) : n ≤ sizeLine := Nat.le_trans h (by decide)
theorem small64' {n : Nat} (h : n ≤ 1000000) : n < sizeLine := Nat.lt_of_le_of_lt h (by decide)
theorem shl1 {j : Int} (h : 0 ≤ j) (h2 : j ≤ 100000) : CShl 1 j := by
  obtain ⟨n, rfl⟩ := Int.eq_ofNat_of_zero_le h
  exact shl_ok (n := 1) (by decide) (by omega)
theorem shlN {i j : Int} (hi : i.natAbs < 2 ^ 1000) (h : 0 ≤ j) (h2 : j ≤ 100000) : CShl i j := by
  obtain ⟨n, rfl⟩ := Int.eq_ofNat_of_zero_le h
  exact shl_ok (n := 1000) hi (by omega)
theorem pow_pos2 (k : Nat) : (0 : Int) < 2 ^ k := PySem.W.kbt_pos k
/-! ### heaps -/
theorem Same.new {H : Hp} {p : Addr} {o : HO} (h : H p = none) : Same H (upd H p o) := fun b x e => by
  rw [upd_ne (ne_of_none e h)]; exact e
theorem SqL.new {K : PySem.W.Frag} {H : Hp} {p : Addr} {xs : List V} : SqL K (upd H p (.lst xs)) p xs := .inl (.inl upd_same)
theorem SqT.new {K : PySem.W.Frag} {H : Hp} {p : Addr} {xs : List V} : SqT K (upd H p (.tup xs)) p xs := .inl (.inl upd_same)

/-! ### operators in the words that the readings like -/
section
variable {X : Cx}
/-- i << j, i of a usual size -/
theorem op_shlS : OpR X (binaryOp .LShift) (fun x y H Q => ∃ i j : Int, x = .int i ∧ y = .int j ∧ (i.natAbs < 2 ^ 1000 ∧ 0 ≤ j ∧ j ≤ 100000) ∧ Q (.int (i * 2 ^ j.toNat)) H) := by
  intro pins s σ H x y v u Q I rx ry h
  obtain ⟨i, j, rfl, rfl, ⟨c0, c1, c2⟩, q⟩ := h
  exact op_shlW pins s σ H _ _ v u Q I rx ry ⟨i, j, rfl, rfl, shlN c0 c1 c2, q⟩
theorem nat_small {i : Int} (h : i.natAbs ≤ 18446744073709551616) : i.natAbs < 2 ^ 1000 := Nat.lt_of_le_of_lt h (by decide +kernel)
/-- 1 << j -/
theorem op_shl1 : OpR X (binaryOp .LShift) (fun x y H Q => ∃ j : Int, x = .int 1 ∧ y = .int j ∧ (0 ≤ j ∧ j ≤ 100000) ∧ Q (.int (2 ^ j.toNat)) H) := by
  intro pins s σ H x y v u Q I rx ry h
  obtain ⟨j, rfl, rfl, ⟨c1, c2⟩, q⟩ := h
  refine op_shlW pins s σ H _ _ v u Q I rx ry ⟨1, j, rfl, rfl, shl1 c1 c2, ?_⟩
  show Q (.int (1 * 2 ^ j.toNat)) H
  rw [Int.one_mul]; exact q
end
/-- isinstance(x, T) of a value of a type of its own -/
theorem isi_int {K : PySem.W.Frag} {H : Hp} {i : Int} {Q : VK} (q : Q (.bl true) H) : rIsi K [.int i, .ty "int"] H Q := ⟨.int i, .ty "int", _, _, true, rfl, .ty _, .base (.int _), kit_ty (by decide +kernel), q⟩
theorem isi_int_bool {K : PySem.W.Frag} {H : Hp} {i : Int} {Q : VK} (q : Q (.bl false) H) : rIsi K [.int i, .ty "bool"] H Q := ⟨.int i, .ty "bool", _, _, false, rfl, .ty _, .base (.int _), kit_ty (by decide +kernel), q⟩
theorem isi_list {K : PySem.W.Frag} {H : Hp} {a : Addr} {xs : List V} {Q : VK} (h : H a = some (.lst xs)) (q : Q (.bl true) H) : rIsi K [.ref a, .ty "list"] H Q := ⟨.ref a, .ty "list", _, _, true, rfl, .ty _, .base (.lst h), kit_ty (by decide +kernel), q⟩
theorem isi_tup {K : PySem.W.Frag} {H : Hp} {a : Addr} {xs : List V} {Q : VK} (h : H a = some (.tup xs)) (q : Q (.bl true) H) : rIsi K [.ref a, .ty "tuple"] H Q := ⟨.ref a, .ty "tuple", _, _, true, rfl, .ty _, .base (.tup h), kit_ty (by decide +kernel), q⟩
theorem isi_str {K : PySem.W.Frag} {H : Hp} {z : Str} {Q : VK} (q : Q (.bl true) H) : rIsi K [.str z, .ty "str"] H Q := ⟨.str z, .ty "str", _, _, true, rfl, .ty _, .base (.str _), kit_ty (by decide +kernel), q⟩
/-! ### lists of ints -/
theorem at_ints {ns : List Int} {k : Nat} (h : k < ns.length) : atI (ns.map V.int) (k : Int) = some (.int (ns.getD k 0)) := atI_nat (by
  rw [List.getElem?_map, List.getElem?_eq_getElem h, List.getD_eq_getElem?_getD, List.getElem?_eq_getElem h]; rfl)
theorem cut_to (xs : List V) (k : Nat) : cutV xs none (some (k : Int)) = xs.take k := by
  unfold cutV
  rw [HT.sIx_nat, HT.sIx_none, List.drop_zero, Nat.sub_zero]
  rcases Nat.le_total k xs.length with h | h
  · rw [Nat.min_eq_left h]
  · rw [Nat.min_eq_right h, List.take_length, List.take_of_length_le h]
theorem cut_from (xs : List V) (k : Nat) : cutV xs (some (k : Int)) none = xs.drop k := by
  unfold cutV
  rw [HT.sIx_nat, HT.sIx_none]
  rcases Nat.le_total k xs.length with h | h
  · rw [Nat.min_eq_left h]; exact List.take_of_length_le (by rw [List.length_drop]; exact Nat.le_refl _)
  · rw [Nat.min_eq_right h, Nat.sub_self, List.take_zero, List.drop_eq_nil_of_le h]
/-! ### a reading, gone through as far as it goes by sight -/
local macro_rules | `(tactic| walk_at "side") => `(tactic| first
  | (show _ = _; rfl)
  | (show (0 : Int) < _; first | omega | exact pow_pos2 _)
  | (show (0 : Int) ≤ _; omega)
  | (show (0 : Int) ≤ _ ∧ _; constructor <;> omega)
  | (show (0 : Int) < _ ∧ _; constructor <;> omega)
  | (show (_ < _ ∧ _ < _) ∨ (_ < _ ∧ _ < _); first | exact .inl ⟨by omega, by omega⟩ | exact .inr ⟨by omega, by omega⟩))
local macro_rules | `(tactic| walk_at "loop") => `(tactic| (show ∃ W : (Nat → Nat → L2.St → Hp → Prop), _))
local macro_rules | `(tactic| walk_at "go1") => `(tactic| (fail_if_success walk_at "loop"); first
  | refine And.intro (show (_ : Int) ≤ _ by omega) ?_
  | refine ⟨_, rfl, ?_⟩
  | refine ⟨_, _, rfl, rfl, ?_⟩
  | refine ⟨_, rfl, rfl, ?_⟩
  | refine .inl ⟨_, rfl, ?_⟩
  | refine ⟨_, .ty "int", _, _, true, rfl, .ty _, .base (.int _), kit_ty (by decide +kernel), ?_⟩
  | refine ⟨_, .ty "bool", _, _, false, rfl, .ty _, .base (.int _), kit_ty (by decide +kernel), ?_⟩
  | refine ⟨_, .ty "bool", _, _, false, rfl, .ty _, .base (.str _), kit_ty (by decide +kernel), ?_⟩
  | refine ⟨_, .ty "str", _, _, true, rfl, .ty _, .base (.str _), kit_ty (by decide +kernel), ?_⟩
  | refine ⟨_, .ty "list", _, _, true, rfl, .ty _, .base (.lst (by assumption)), kit_ty (by decide +kernel), ?_⟩
  | refine ⟨_, .ty "tuple", _, _, true, rfl, .ty _, .base (.tup (by assumption)), kit_ty (by decide +kernel), ?_⟩
  | refine ⟨_, _, rfl, .inl (by assumption), ?_⟩
  | refine ⟨_, _, rfl, .inr (by assumption), ?_⟩
  | refine ⟨_, _, rfl, ?_⟩
  | refine ⟨_, _, _, _, rfl, rfl, by assumption, at_ints (by omega), ?_⟩
  | refine ⟨_, _, _, _, rfl, rfl, by assumption, rfl, ?_⟩
  | refine iteF ?_
  | refine iteT ?_
  | refine iteNS rfl ?_
  | (refine And.intro ?h1 ?h2; case h1 => first
    | walk_at "side"
    | assumption
    | (show (_ : Nat) ≤ _; omega)
    | (show (_ : Int) ≤ _; omega)
    | (show (_ : Int) < _; omega)
    | (show 0 ≤ sizeLine; decide)
    | (show 1 ≤ sizeLine; decide)
    | (show 2 ≤ sizeLine; decide)
    | (show 3 ≤ sizeLine; decide)
    | (show 4 ≤ sizeLine; decide)
    | (show (_ : Nat) ≤ _; decide)))
local macro_rules | `(tactic| walk_at "go") => `(tactic| repeat walk_at "go1")
/-! ### tests that read alone, loops -/
theorem tor_b {t u : TT} {σ : L2.St} {H : Hp} {Q : Bool → Hp → Prop} (b1 b2 : Bool) (h1 : ∀ Q, Q b1 H → t σ H Q) (h2 : ∀ Q, Q b2 H → u σ H Q) (q : Q (b1 || b2) H) : tOr t u σ H Q := by
  refine h1 _ ?_
  cases b1 with
  | true => rw [if_pos rfl]; exact q
  | false => rw [if_neg (by decide)]; exact h2 _ q
theorem tand_b {t u : TT} {σ : L2.St} {H : Hp} {Q : Bool → Hp → Prop} (b1 b2 : Bool) (h1 : ∀ Q, Q b1 H → t σ H Q) (h2 : ∀ Q, Q b2 H → u σ H Q) (q : Q (b1 && b2) H) : tAnd t u σ H Q := by
  refine h1 _ ?_
  cases b1 with
  | true => rw [if_pos rfl]; exact h2 _ q
  | false => rw [if_neg (by decide)]; exact q
theorem while_ev {c : TT} {tb : TS} {D : Ends} {σ : L2.St} {H : Hp} (Pv : L2.St → Hp → Prop) (μ : L2.St → Hp → Nat) (h0 : Pv σ H)
    (hs : ∀ σ H, Pv σ H → ∃ b : Bool, (∀ Q, Q b H → c σ H Q) ∧ (b = true → tb { D with nx := fun σ' H' => Pv σ' H' ∧ μ σ' H' < μ σ H, ct := fun σ' H' => Pv σ' H' ∧ μ σ' H' < μ σ H, bk := D.nx } σ H) ∧ (b = false → D.nx σ H)) : tWhile c tb D σ H := by
  refine ⟨fun m σ H => m = μ σ H ∧ Pv σ H, ⟨_, rfl, h0⟩, ?_⟩
  rintro m σ H ⟨rfl, p⟩
  obtain ⟨b, h1, h2, h3⟩ := hs σ H p
  refine h1 _ ?_
  cases b with
  | true => exact ⟨_, fun σ' H' ⟨p', l⟩ => ⟨_, l, rfl, p'⟩, h2 rfl⟩
  | false => exact h3 rfl
/-- the loops' bookkeeping, with what follows and what returns told apart -/
theorem for_listD {K : PySem.W.Frag} {a : Addr} {xs : List V} {g : TG} {tb : TS} {nx : L2.St → Hp → Prop} {rt : VK} {σ : L2.St} {H : Hp} (Pv : Nat → L2.St → Hp → Prop) (h0 : Pv 0 σ H) (hl : ∀ i σ H, i ≤ xs.length → Pv i σ H → SqL K H a xs)
    (hs : ∀ i x σ H, xs[i]? = some x → Pv i σ H → g x σ H fun σ2 H2 => tb { nx := Pv (i + 1), rt := rt, bk := nx, ct := Pv (i + 1) } σ2 H2) (hd : ∀ σ H, Pv xs.length σ H → nx σ H) :
    ∃ W : Nat → Nat → L2.St → Hp → Prop, (∃ m, W 0 m σ H) ∧ ∀ i m σ H, W i m σ H → ((Itl K a).stop i H ∧ nx σ H) ∨ ((Itl K a).go i H ∧ ∃ N : L2.St → Hp → Prop, (∀ σ' H', N σ' H' → ∃ m', m' < m ∧ W (i + 1) m' σ' H') ∧
      ∀ x H', (Itl K a).yld i H x H' → g x σ H' fun σ2 H2 => tb { nx := N, rt := rt, bk := nx, ct := N } σ2 H2) := for_list (D := { nx := nx, rt := rt }) Pv h0 hl hs hd
theorem for_rangeD {lo : Int} {n : Nat} {g : TG} {tb : TS} {nx : L2.St → Hp → Prop} {rt : VK} {σ : L2.St} {H : Hp} (Pv : Nat → L2.St → Hp → Prop) (h0 : Pv 0 σ H)
    (hs : ∀ i σ H, i < n → Pv i σ H → g (.int (lo + i)) σ H fun σ2 H2 => tb { nx := Pv (i + 1), rt := rt, bk := nx, ct := Pv (i + 1) } σ2 H2) (hd : ∀ σ H, Pv n σ H → nx σ H) :
    ∃ W : Nat → Nat → L2.St → Hp → Prop, (∃ m, W 0 m σ H) ∧ ∀ i m σ H, W i m σ H → ((Itr lo n).stop i H ∧ nx σ H) ∨ ((Itr lo n).go i H ∧ ∃ N : L2.St → Hp → Prop, (∀ σ' H', N σ' H' → ∃ m', m' < m ∧ W (i + 1) m' σ' H') ∧
      ∀ x H', (Itr lo n).yld i H x H' → g x σ H' fun σ2 H2 => tb { nx := N, rt := rt, bk := nx, ct := N } σ2 H2) := for_range (D := { nx := nx, rt := rt }) Pv h0 hs hd
/-! ### a comprehension that makes f of each item -/
theorem lc_map {K : PySem.W.Frag} {a : Addr} {xs : List V} {j : Nat} {te : TE} {σ : L2.St} {H1 : Hp} {D : Addr} {Qd : Hp → Prop} (f : V → V) (hD : H1 D = none) (hS : SqL K H1 a xs) (hn : xs.length ≤ 100000)
    (hs : ∀ x H Q, x ∈ xs → Same H1 H → (∀ H', Same H H' → Q (f x) H') → te ((σ.set j none).set j (some x)) H Q) (hd : ∀ H, Same H1 H → H D = some (.lst (xs.map f)) → Qd H) :
    ∃ W : Nat → Nat → Hp → Prop, (∃ m, W 0 m (upd H1 D (.lst []))) ∧ ∀ i m H, W i m H →
      ((Itl K a).stop i H ∧ Qd H) ∨ ((Itl K a).go i H ∧ ∃ Nx : Hp → Prop, (∀ H', Nx H' → ∃ m', m' < m ∧ W (i + 1) m' H') ∧ ∀ x H', (Itl K a).yld i H x H' → gName j x (wipe σ [j]) H' fun σ2 H2 => wipe σ2 [j] = wipe σ [j] ∧ tYes σ2 H2 fun b H3 =>
        if b = true then te σ2 H3 fun y H4 => ∃ acc, H4 D = some (.lst acc) ∧ acc.length < sizeLine ∧ Nx (upd H4 D (.lst (acc ++ [y]))) else Nx H3) := by
  refine lc_list (xs := xs) (fun i H => Same H1 H ∧ H D = some (.lst ((xs.take i).map f))) ⟨Same.new hD, by rw [upd_same]; rfl⟩ (fun i H _ h => h.1.seq hS) (fun i x H hx h => ?_) (fun H h => hd H h.1 (by rw [List.take_length] at h; exact h.2))
  have hi : i < xs.length := (List.getElem?_eq_some_iff.mp hx).1
  refine ⟨?_, ?_⟩
  · show (((σ.set j none).set j (some x)).set j none) = σ.set j none
    rw [List.set_set, List.set_set]
  · simp only [tYes, if_true]
    refine hs x H _ (List.mem_of_getElem? hx) h.1 fun H' s' => ?_
    refine ⟨_, s' _ _ h.2, ?_, fun b o e => ?_, ?_⟩
    · rw [List.length_map, List.length_take]; exact small64' (by omega)
    · have nb : b ≠ D := fun z => by rw [z, hD] at e; cases e
      rw [upd_ne nb]; exact s' _ _ (h.1 _ _ e)
    · rw [upd_same, List.take_add_one, hx, List.map_append]; rfl

/-! ### own errors with fields -/
/-- what the top has written of an own error's class, whose base is ValueError by some way -/
structure ExK (K : PySem.W.Frag) (mg : Str → Option Value) (x : Str) (C : Addr) : Prop where
  g : mg x = some (.ref C)
  T : OexC K C
  ga : PySem.W.findIn K (.ref C) "__getattribute__" = some (some (.builtin "BaseException.__getattribute__"))
  gg : PySem.W.findIn K (.ref C) "__getattr__" = some none
  hd : PySem.W.hasDictIn K C = true
  ca : PySem.W.findIn K (.ref C) "__class__" = some (some (.builtin "object.__class__"))
  sp : PySem.W.specialIn K (.builtin "object.__class__") "__get__" = some (some (.builtin "getset_descriptor.__get__"))
  tk : PySem.W.takesIn K (.builtin "object.__class__") = some true
  mr : PySem.W.mroIn K C (.type "object") = some true
theorem ExK.xf {K : PySem.W.Frag} {mg : Str → Option Value} {x : Str} {C : Addr} (k : ExK K mg x C) : XfC K C := ⟨k.ga, k.gg, k.T.exC, k.hd⟩
def spI1 (K : PySem.W.Frag) (C : Addr) (a : Str) : Sp := fun vs H Q _ => ∃ (s : Addr) (v : V), vs = [.ref s, v] ∧ H s = some (exo s C none) ∧
  ∀ d, H d = none → d ≠ s → Q .non (upd (upd H d (exd d [(a, v)])) s (exo s C (some d)))
def spI2 (K : PySem.W.Frag) (C : Addr) (a b : Str) : Sp := fun vs H Q _ => ∃ (s : Addr) (v u : V), vs = [.ref s, v, u] ∧ H s = some (exo s C none) ∧
  ∀ d, H d = none → d ≠ s → Q .non (upd (upd (upd H d (exd d [(a, v)])) s (exo s C (some d))) d (exd d [(b, u), (a, v)]))
theorem del_upd {H : Hp} {s d : Addr} {o o' : HO} (hs : H s = none) (hd : H d = none) (ne : d ≠ s) {K : Hp} (hK : ∀ b, b ≠ s → b ≠ d → K b = H b) : Same H (upd (del K s) d o) := fun b x e => by
  have nd : b ≠ d := ne_of_none e hd
  have ns : b ≠ s := ne_of_none e hs
  rw [upd_ne nd, del_ne ns, hK b ns nd]; exact e
/-- X(v): an error flies whose dict, new at d, holds the field; all else stands -/
theorem fly1 {K : PySem.W.Frag} {C : Addr} {a : Str} {v : V} {H : Hp} {Q : XK} (h : ∀ d Hf, Same H Hf → Hf d = some (.xd [(a, v)]) → Q (.ref C) (some d) Hf) :
    ([v] : List V).length ≤ 1000 ∧ ∀ s, H s = none → spI1 K C a (.ref s :: ([v] ++ [])) (upd H s (exo s C none))
      (fun v H2 => v = .non ∧ ∃ (d : Addr) (fs : List (Str × V)), H2 s = some (exo s C (some d)) ∧ H2 d = some (exd d fs) ∧ H d = none ∧ Q (.ref C) (some d) (upd (del H2 s) d (.xd fs))) (fun _ _ _ => False) := by
  refine ⟨by show 1 ≤ 1000; decide, fun s hs => ⟨s, v, rfl, upd_same, fun d hd ne => ⟨rfl, d, [(a, v)], upd_same, ?_, ?_, ?_⟩⟩⟩
  · rw [upd_ne ne, upd_same]
  · rw [upd_ne ne] at hd; exact hd
  · have hd' : H d = none := by rw [upd_ne ne] at hd; exact hd
    refine h d _ (del_upd (o' := .lst []) hs hd' ne fun b nb nd => ?_) upd_same
    rw [upd_ne nb, upd_ne nd, upd_ne nb]
theorem fly2 {K : PySem.W.Frag} {C : Addr} {a b : Str} {v u : V} {H : Hp} {Q : XK} (h : ∀ d Hf, Same H Hf → Hf d = some (.xd [(b, u), (a, v)]) → Q (.ref C) (some d) Hf) :
    ([v, u] : List V).length ≤ 1000 ∧ ∀ s, H s = none → spI2 K C a b (.ref s :: ([v, u] ++ [])) (upd H s (exo s C none))
      (fun v H2 => v = .non ∧ ∃ (d : Addr) (fs : List (Str × V)), H2 s = some (exo s C (some d)) ∧ H2 d = some (exd d fs) ∧ H d = none ∧ Q (.ref C) (some d) (upd (del H2 s) d (.xd fs))) (fun _ _ _ => False) := by
  refine ⟨by show 2 ≤ 1000; decide, fun s hs => ⟨s, v, u, rfl, upd_same, fun d hd ne => ⟨rfl, d, [(b, u), (a, v)], ?_, upd_same, ?_, ?_⟩⟩⟩
  · rw [upd_ne ne.symm, upd_same]
  · rw [upd_ne ne] at hd; exact hd
  · have hd' : H d = none := by rw [upd_ne ne] at hd; exact hd
    refine h d _ (del_upd (o' := .lst []) hs hd' ne fun b nb nd => ?_) upd_same
    rw [upd_ne nd, upd_ne nb, upd_ne nd, upd_ne nb]
section
variable {P : Program} {w : World} {K : PySem.W.Frag} {mg : Str → Option Value} {base : Heap} {C f : Addr} {fd : FuncData} {qual : Str}
/-- an __init__ that stores its one parameter, its two parameters, under their names -/
theorem init1 {st : Stmt} {a : Str} (F : L2.Fun K "__init__" qual st f fd) (S : FnScope ["self", a] ["self", a] (defScope st)) (T : OexC K C) (na : PySem.W.findIn K (.ref C) a = some none) {p1 p2 p3 p4 : Pos} (hb : defBody st = [.Assign [.Attribute (.Name "self" p1) a p2] (.Name a p3) p4])
    (va : Vis (defScope st) a) (vs : Vis (defScope st) "self") (d1 : (a == ("__debug__" : Str)) = false) (d2 : (a == ("__classdict__" : Str)) = false) : FnOk P w K mg base CX0 1 f fd ["self", a] (spI1 K C a) := by
  refine F.ok S (fun vs H Q E h => ?_) (fun cdv A outer s H vs Q E hr h => ?_)
  · obtain ⟨s, v, rfl, _⟩ := h; rfl
  · obtain ⟨s, v, rfl, hs, q⟩ := h
    rw [hb]
    refine ⟨_, pss_one (ps_ost (pe_var (i := 0) rfl (by assumption)) (pe_var (i := 1) rfl (by assumption) d1 d2)), ?_⟩
    exact ⟨_, rfl, _, rfl, s, C, rfl, T, na, .inl ⟨hs, fun d hd ne => q d hd ne⟩⟩
theorem init2 {st : Stmt} {a b : Str} (F : L2.Fun K "__init__" qual st f fd) (S : FnScope ["self", a, b] ["self", a, b] (defScope st)) (T : OexC K C) (na : PySem.W.findIn K (.ref C) a = some none) (nb : PySem.W.findIn K (.ref C) b = some none) {p1 p2 p3 p4 q1 q2 q3 q4 : Pos}
    (hb : defBody st = [.Assign [.Attribute (.Name "self" p1) a p2] (.Name a p3) p4, .Assign [.Attribute (.Name "self" q1) b q2] (.Name b q3) q4])
    (va : Vis (defScope st) a) (vb : Vis (defScope st) b) (vs : Vis (defScope st) "self") (d1 : (a == ("__debug__" : Str)) = false) (d2 : (a == ("__classdict__" : Str)) = false) (d3 : (b == ("__debug__" : Str)) = false) (d4 : (b == ("__classdict__" : Str)) = false) : FnOk P w K mg base CX0 1 f fd ["self", a, b] (spI2 K C a b) := by
  refine F.ok S (fun vs H Q E h => ?_) (fun cdv A outer s H vs Q E hr h => ?_)
  · obtain ⟨s, v, u, rfl, _⟩ := h; rfl
  · obtain ⟨s, v, u, rfl, hs, q⟩ := h
    rw [hb]
    refine ⟨_, pss_cons (ps_ost (pe_var (i := 0) rfl (by assumption)) (pe_var (i := 1) rfl (by assumption) d1 d2)) (pss_one (ps_ost (pe_var (i := 0) rfl (by assumption)) (pe_var (i := 2) rfl (by assumption) d3 d4))), ?_⟩
    refine ⟨_, rfl, _, rfl, s, C, rfl, T, na, .inl ⟨hs, fun d hd ne => ?_⟩⟩
    exact ⟨_, rfl, _, rfl, s, C, rfl, T, nb, .inr ⟨d, _, upd_same, by rw [upd_ne ne, upd_same], (by show 1 ≤ 900; decide), q d hd ne⟩⟩
end
/-- isinstance(e, c), e the caught error at a, of the class D, its dict at dd -/
theorem call_isX {X : Cx} {a D : Addr} {oe : Obj} {cls : Value} {d : Option Addr} {pn : List (Addr × Obj)} (hz : Zc cls d oe) (hf : ∃ vs, oe.data = .fields vs) {x : Str} (k : ExK X.K X.mg x D) : CallR (X.suite a ((a, oe) :: pn)) (.builtin "isinstance")
    (fun xs H Q => ∃ (c : V) (cv : Value) (b : Bool) (dd : Addr) (fs : List (Str × V)), xs = [.ref a, c] ∧ cls = .ref D ∧ d = some dd ∧ H dd = some (.xd fs) ∧ RelV c cv ∧ (∀ u, RelV c u → u = cv) ∧ PySem.W.kitOne X.K (.ref D) cv = some b ∧ Q (.bl b) H) := by
  intro pins s σ H xs us Q I r h
  obtain ⟨c, cv, b, dd, fs, rfl, rfl, rfl, ea, _, hcv, e, q⟩ := h
  obtain ⟨u1, u2, rfl, r1, r2⟩ := vals2 r
  cases r1
  have ec := hcv _ r2
  subst ec
  obtain ⟨hget, _⟩ := I.pin (a, oe) (List.mem_append.mpr (.inl List.mem_cons_self))
  obtain ⟨vs, hv⟩ := hf
  have hx : ObjOk X.prog X.w H s.heap dd (.xd fs) := I.hok dd _ ea
  obtain ⟨mA, ⟨od, es, ep, ho, hl⟩, hr⟩ := hx
  have J : PySem.W.InstAt s.heap a oe D (some od) := ⟨hget, hz.1, by unfold PySem.W.notCls; rw [hv] <;> rfl, by rw [hz.2]; exact ho⟩
  have hc : (PySem.W.clsIn X.K D).isSome = true := by
    have h := k.hd
    unfold PySem.W.hasDictIn at h
    cases hh : PySem.W.clsIn X.K D with
    | none => rw [hh] at h; cases h
    | some cd => rfl
  exact PySem.W.kia_one (PySem.W.kitx_exc hc k.ga k.gg k.T.exC k.ca k.sp k.tk k.mr) I.kIn J e (fun z => nomatch z) fun tk => ⟨.bl b, H, I.kept (t' := tk) fun _ _ z => z, rfl, q⟩
/-- what isinstance and an except clause ask of own classes -/
theorem kit_self {K : PySem.W.Frag} {C : Addr} : PySem.W.kitOne K (.ref C) (.ref C) = some true := by
  unfold PySem.W.kitOne
  rw [if_pos (by exact beq_self_eq_true (Value.ref C))]
theorem kit_two {K : PySem.W.Frag} {D C : Addr} {b : Bool} (ne : (Value.ref D == Value.ref C) = false) (hd : PySem.W.hasDictIn K C = true) (ht : PySem.W.typeIn K (.ref C) = some (.type "type")) (hs : PySem.W.subIn K (.ref D) (.ref C) = some b) : PySem.W.kitOne K (.ref D) (.ref C) = some b := by
  have hc : (PySem.W.clsIn K C).isSome = true := by
    unfold PySem.W.hasDictIn at hd
    cases hh : PySem.W.clsIn K C with
    | none => rw [hh] at hd; cases hd
    | some cd => rfl
  unfold PySem.W.kitOne PySem.W.kitCls
  rw [ne, if_neg (by decide)]
  show (if ((PySem.W.clsIn K C).isSome && PySem.W.typeIn K (.ref C) == some (.type "type")) = true then PySem.W.subIn K (.ref D) (.ref C) else none) = some b
  rw [hc, ht, hs]; rfl
theorem kit_ve {K : PySem.W.Frag} {D : Addr} (hs : PySem.W.subIn K (.ref D) (.type "ValueError") = some true) : PySem.W.kitOne K (.ref D) (.type "ValueError") = some true := by
  unfold PySem.W.kitOne PySem.W.kitCls
  rw [show (Value.ref D == Value.type "ValueError") = false from rfl, if_neg (by decide)]
  show (if PySem.W.kitMeta "ValueError" = true then PySem.W.subIn K (.ref D) (.type "ValueError") else none) = some true
  rw [if_pos (by decide +kernel), hs]

/-! ### methods and makers of own classes -/
structure DefM (K : PySem.W.Frag) (C : Addr) (m qual : Str) (st : Stmt) (ps : List Str) : Prop where
  ex : ∃ (f : Addr) (fd : FuncData), L2.Fun K m qual st f fd ∧ Meth K C m f ∧ Binds K fd ps []
structure DefI (K : PySem.W.Frag) (C : Addr) (qual : Str) (st : Stmt) (ps : List Str) : Prop where
  ex : ∃ (f : Addr) (fd : FuncData), L2.Fun K "__init__" qual st f fd ∧ Mk K C f ∧ Binds K fd ps []
structure CalM (P : Program) (w : World) (K : PySem.W.Frag) (mg : Str → Option Value) (base : Heap) (CX : CXT) (C : Addr) (k : Nat) (m : Str) (sp : Sp) : Prop where
  ex : ∃ (f : Addr) (fd : FuncData) (ps : List Str), FnOk P w K mg base CX k f fd ps sp ∧ Cls K C ∧ Meth K C m f ∧ Binds K fd ps []
structure CalI (P : Program) (w : World) (K : PySem.W.Frag) (mg : Str → Option Value) (base : Heap) (CX : CXT) (C : Addr) (k : Nat) (sp : Sp) : Prop where
  ex : ∃ (f : Addr) (fd : FuncData) (ps : List Str), FnOk P w K mg base CX k f fd ps sp ∧ Mk K C f ∧ Binds K fd ps []
section
variable {P : Program} {w : World} {K : PySem.W.Frag} {mg : Str → Option Value} {base : Heap} {k : Nat} {x m qual : Str} {sp sp' : Sp} {C : Addr}
theorem Def.none {st : Stmt} {N ps : List Str} (D : Def K mg x st ps) (S : FnScope N ps (defScope st)) : Cal P w K mg base CX0 (k + 1) x (fun _ _ _ _ => False) := D.ok S (fun _ _ _ _ h => h.elim) (fun _ _ _ _ _ _ _ _ _ _ h => h.elim)
theorem Def.noneX {st : Stmt} {N ps : List Str} (D : Def K mg x st ps) (S : FnScope N ps (defScope st)) : Cal P w K mg base (L2.CX P w) (k + 1) x (fun _ _ _ _ => False) := D.okX S (fun _ _ _ _ h => h.elim) (fun _ _ _ _ _ _ _ _ _ _ h => h.elim)
theorem DefM.ok {st : Stmt} {N ps : List Str} (D : DefM K C m qual st ps) (S : FnScope N ps (defScope st)) (cl : Cls K C) (len : ∀ vs H Q E, sp vs H Q E → vs.length = ps.length)
    (hbody : ∀ (f : Addr) (cdv : Value) (A : Around) (outer : List Env) (s : Shared) (H : Hp) (vs : List V) (Q : VK) (E : XK), Room k (A.deeper (envOfC qual (defScope st) s.heap.objs.size f cdv)) → sp vs H Q E →
      ∃ t, PSs (cxOf CX0 P w K mg base N qual (defScope st) f cdv A outer s H E).nox (defBody st) t ∧ t { nx := fun _ H' => Q .non H', rt := Q } (start N vs) H) : CalM P w K mg base CX0 C (k + 1) m sp := by
  obtain ⟨f, fd, F, mm, b⟩ := D.ex
  exact ⟨f, fd, ps, F.ok S len (hbody f), cl, mm, b⟩
theorem DefM.okX {st : Stmt} {N ps : List Str} (D : DefM K C m qual st ps) (S : FnScope N ps (defScope st)) (cl : Cls K C) (len : ∀ vs H Q E, sp vs H Q E → vs.length = ps.length)
    (hbody : ∀ (f : Addr) (cdv : Value) (A : Around) (outer : List Env) (s : Shared) (H : Hp) (vs : List V) (Q : VK) (E : XK), Room k (A.deeper (envOfC qual (defScope st) s.heap.objs.size f cdv)) → sp vs H Q E →
      ∃ t, PSs (cxOf (L2.CX P w) P w K mg base N qual (defScope st) f cdv A outer s H E) (defBody st) t ∧ t { nx := fun _ H' => Q .non H', rt := Q } (start N vs) H) : CalM P w K mg base (L2.CX P w) C (k + 1) m sp := by
  obtain ⟨f, fd, F, mm, b⟩ := D.ex
  exact ⟨f, fd, ps, F.okX S len (hbody f), cl, mm, b⟩
theorem DefI.ok {st : Stmt} {N ps : List Str} (D : DefI K C qual st ps) (S : FnScope N ps (defScope st)) (len : ∀ vs H Q E, sp vs H Q E → vs.length = ps.length)
    (hbody : ∀ (f : Addr) (cdv : Value) (A : Around) (outer : List Env) (s : Shared) (H : Hp) (vs : List V) (Q : VK) (E : XK), Room k (A.deeper (envOfC qual (defScope st) s.heap.objs.size f cdv)) → sp vs H Q E →
      ∃ t, PSs (cxOf CX0 P w K mg base N qual (defScope st) f cdv A outer s H E).nox (defBody st) t ∧ t { nx := fun _ H' => Q .non H', rt := Q } (start N vs) H) : CalI P w K mg base CX0 C (k + 1) sp := by
  obtain ⟨f, fd, F, mm, b⟩ := D.ex
  exact ⟨f, fd, ps, F.ok S len (hbody f), mm, b⟩
end
section
variable {X : Cx} {k j : Nat} {x m : Str} {sp : Sp} {p pos apos : Pos} {o e : Expr} {es : List Expr} {ta : TE} {t : TA} {CX : CXT} {E : XK} {C : Addr}
theorem pe_mE {pl : Sem Bool} (c : CalM X.prog X.w X.K X.mg X.base CX C k m sp) (hr : Room j X.A) (hk : k ≤ j) (hx : Passes CX X E) (he : PE X o ta) (ha : PA X (e :: es) t)
    (hst : starEach (e :: es) X.env = (false, eval e X.env) :: starEach es X.env := by rfl) (hpl : (backTo pos (starEach es X.env)).any (·.1) = false := by rfl)
    (ht : eval (.Call (.Attribute o m apos) (e :: es) [] pos) X.env = (do
      let ov ← eval o X.env
      standAt apos.atName
      let (f, first) ← holding [ov] (getMethod ov m pl)
      callWith pos f first (backTo pos (starEach (e :: es) X.env)) (backToKw pos (keywordEach [] X.env))) := by rfl) :
    PE X (.Call (.Attribute o m apos) (e :: es) [] pos) (tMeth C m sp [] E ta t) := by
  obtain ⟨f, fd, ps, F, cl, mm, b⟩ := c.ex
  exact pe_meth (pl := pl) he cl mm F (hr.mono hk) b .nil hx ha hst hpl ht
theorem pe_mE0 {pl : Sem Bool} (c : CalM X.prog X.w X.K X.mg X.base CX C k m sp) (hr : Room j X.A) (hk : k ≤ j) (hx : Passes CX X E) (he : PE X o ta)
    (ht : eval (.Call (.Attribute o m apos) [] [] pos) X.env = (do
      let ov ← eval o X.env
      standAt apos.atName
      let (f, first) ← holding [ov] (getMethod ov m pl)
      callWith pos f first (backTo pos (starEach [] X.env)) (backToKw pos (keywordEach [] X.env))) := by rfl) :
    PE X (.Call (.Attribute o m apos) [] [] pos) (tMeth C m sp [] E ta tNil) := by
  obtain ⟨f, fd, ps, F, cl, mm, b⟩ := c.ex
  exact pe_meth0 (pl := pl) he cl mm F (hr.mono hk) b .nil hx ht
theorem pe_nw (c : CalI X.prog X.w X.K X.mg X.base CX0 C k sp) (hr : Room j X.A) (hk : k + 1 ≤ j) (hg : Gl X x) (hm : X.mg x = some (.ref C)) (ha : PA X (e :: es) t)
    (hdb : (x == ("__debug__" : Str)) = false := by decide) (he : starEach (e :: es) X.env = (false, eval e X.env) :: starEach es X.env := by rfl) (hpl : (backTo pos (starEach es X.env)).any (·.1) = false := by rfl) :
    PE X (.Call (.Name x p) (e :: es) [] pos) (tMake C sp [] E0 t) := by
  obtain ⟨f, fd, ps, F, mm, b⟩ := c.ex
  exact pe_make mm F (hr.mono hk) hg hm b .nil pass0 ha hdb he hpl
theorem pe_nw0 (c : CalI X.prog X.w X.K X.mg X.base CX0 C k sp) (hr : Room j X.A) (hk : k + 1 ≤ j) (hg : Gl X x) (hm : X.mg x = some (.ref C))
    (hdb : (x == ("__debug__" : Str)) = false := by decide) : PE X (.Call (.Name x p) [] [] pos) (tMake C sp [] E0 tNil) := by
  obtain ⟨f, fd, ps, F, mm, b⟩ := c.ex
  exact pe_make0 mm F (hr.mono hk) hg hm b .nil pass0 hdb
end
/-- the heap behind a change of some objects: all others stand -/
def SameBut (ps : List Addr) (H H' : Hp) : Prop := ∀ b o, b ∉ ps → H b = some o → H' b = some o
theorem Same.but {ps : List Addr} {H H' : Hp} (s : Same H H') : SameBut ps H H' := fun b o _ e => s b o e
theorem SameBut.refl {ps : List Addr} (H : Hp) : SameBut ps H H := fun _ _ _ e => e
theorem SameBut.trans {ps : List Addr} {H1 H2 H3 : Hp} (a : SameBut ps H1 H2) (b : SameBut ps H2 H3) : SameBut ps H1 H3 := fun c o n e => b c o n (a c o n e)
theorem SameBut.upd {ps : List Addr} {H H' : Hp} {a : Addr} {o : HO} (s : SameBut ps H H') (h : a ∈ ps) : SameBut ps H (upd H' a o) := fun b x n e => by
  have nb : b ≠ a := fun z => n (z ▸ h)
  rw [upd_ne nb]; exact s b x n e
theorem lk_hd {k : Str} {v : V} {r : List (Str × V)} : ((k, v) :: r).lookup k = some v := by
  simp [List.lookup]
theorem lk_tl {k a : Str} {v : V} {r : List (Str × V)} (h : ¬ k = a) : ((a, v) :: r).lookup k = r.lookup k := by
  show (match k == a with | true => some v | false => r.lookup k) = _
  rw [beq_eq_false_iff_ne.mpr h]
theorem pt_hd {k : Str} {v x : V} {r : List (Str × V)} : putF k v ((k, x) :: r) = (k, v) :: r := if_pos rfl
theorem pt_tl {k a : Str} {v x : V} {r s : List (Str × V)} (h : ¬ a = k) (e : putF k v r = s) : putF k v ((a, x) :: r) = (a, x) :: s := (if_neg h).trans (congrArg _ e)
theorem pt_nl {k : Str} {v : V} : putF k v [] = [(k, v)] := rfl
theorem made_same {H H2 : Hp} {x dx C : Addr} (nx : H x = none) (nd : H dx = none) (s : SameBut [x] (upd (upd H dx (.own x)) x (.ins C dx [])) H2) : Same H H2 := fun b o e => by
  have n1 : b ≠ x := ne_of_none e nx
  have n2 : b ≠ dx := ne_of_none e nd
  exact s b o (fun z => n1 (List.mem_singleton.mp z)) (by rw [upd_ne n1, upd_ne n2]; exact e)
theorem SameBut.new {ps : List Addr} {H H3 H4 : Hp} {t : Addr} (b3 : SameBut ps H H3) (b4 : SameBut [t] H3 H4) (h : H t = none) : SameBut ps H H4 := fun c o n e =>
  b4 c o (fun z => by rw [List.mem_singleton.mp z, h] at e; cases e) (b3 c o n e)
theorem Same.of_but {ps : List Addr} {H H1 H2 : Hp} (s : Same H H1) (b : SameBut ps H1 H2) (h : ∀ a ∈ ps, H a = none) : Same H H2 := fun c o e =>
  b c o (fun z => by rw [h c z] at e; cases e) (s c o e)
theorem SameBut.mono {ps qs : List Addr} {H H' : Hp} (s : SameBut ps H H') (h : ∀ a ∈ ps, a ∈ qs) : SameBut qs H H' := fun b o n e => s b o (fun z => n (h b z)) e

/-! ### the text by places -/
def top (i : Nat) : Stmt := PySem.Challenge.pw_wasmhost_k82_narrow_finds_where_claims_p.main.body.getD i (.Pass ⟨0, 0, 0, 0⟩)
abbrev s_narrow : Stmt := top 5
abbrev s__law_tape : Stmt := top 7
abbrev s__law_draw : Stmt := top 8
abbrev s__law_equal : Stmt := top 9
abbrev s__law_claims : Stmt := top 10
abbrev s__law_narrow : Stmt := top 11
abbrev s__law_due : Stmt := top 12
abbrev s__law_spoilt : Stmt := top 13
abbrev s_law : Stmt := top 14
theorem sc_narrow : FnScope ["first", "second", "count", "low", "high", "asked", "middle"] ["first", "second"] (defScope s_narrow) := ⟨rfl, rfl, rfl, by decide +kernel, rfl, by decide +kernel, by decide +kernel⟩
theorem sc__law_tape : FnScope ["script", "tape", "cell", "number", "k", "first"] ["script"] (defScope s__law_tape) := ⟨rfl, rfl, rfl, by decide +kernel, rfl, by decide +kernel, by decide +kernel⟩
theorem sc__law_draw : FnScope ["tape", "at", "many", "number"] ["tape", "at", "many"] (defScope s__law_draw) := ⟨rfl, rfl, rfl, by decide +kernel, rfl, by decide +kernel, by decide +kernel⟩
theorem sc__law_equal : FnScope ["actual", "due", "k"] ["actual", "due"] (defScope s__law_equal) := ⟨rfl, rfl, rfl, by decide +kernel, rfl, by decide +kernel, by decide +kernel⟩
theorem sc__law_claims : FnScope ["tape", "count", "first", "second", "spread", "k", "stretch"] ["tape", "count"] (defScope s__law_claims) := ⟨rfl, rfl, rfl, by decide +kernel, rfl, by decide +kernel, by decide +kernel⟩
theorem sc__law_narrow : FnScope ["first", "second", "passed", "answer", "e"] ["first", "second"] (defScope s__law_narrow) := ⟨rfl, rfl, rfl, by decide +kernel, rfl, by decide +kernel, by decide +kernel⟩
theorem sc__law_due : FnScope ["first", "second", "low", "high", "asked", "k", "middle"] ["first", "second"] (defScope s__law_due) := ⟨rfl, rfl, rfl, by decide +kernel, rfl, by decide +kernel, by decide +kernel⟩
theorem sc__law_spoilt : FnScope ["tape", "pair", "bad", "first", "second"] ["tape", "pair"] (defScope s__law_spoilt) := ⟨rfl, rfl, rfl, by decide +kernel, rfl, by decide +kernel, by decide +kernel⟩
theorem sc_law : FnScope ["script", "tape", "count", "pair", "due", "low", "other", "k", "power", "j", "claim"] ["script"] (defScope s_law) := ⟨rfl, rfl, rfl, by decide +kernel, rfl, by decide +kernel, by decide +kernel⟩
/-- where the own classes stand -/
structure Cs where
  C_HostError : Addr
  C_BadClaim : Addr
/-- what the top leaves: built-in names that nothing binds, own classes -/
structure Tp (w : World) (K : PySem.W.Frag) (mg : Str → Option Value) (cs : Cs) : Prop where
  m_bool : mg "bool" = none
  m_int : mg "int" = none
  m_isinstance : mg "isinstance" = none
  m_len : mg "len" = none
  m_list : mg "list" = none
  m_range : mg "range" = none
  m_str : mg "str" = none
  m_tuple : mg "tuple" = none
  g_HostError : mg "HostError" = some (.ref cs.C_HostError)
  g_BadClaim : mg "BadClaim" = some (.ref cs.C_BadClaim)
  x0_BadClaim : PySem.W.excIn K cs.C_BadClaim [.type "ValueError", .type "Exception", .type "BaseException", .type "object"] "ValueError.__new__" = true
  k0_BadClaim : PySem.W.keepIn K (.ref cs.C_BadClaim) = true
  b0_BadClaim : PySem.W.subIn K (.ref cs.C_BadClaim) (.type "BaseException") = some true
  t0_BadClaim : PySem.W.typeIn K (.ref cs.C_BadClaim) = some (.type "type")
  E0_BadClaim : ExcC K cs.C_BadClaim
  kit_BadClaim_HostError : PySem.W.kitOne K (.ref cs.C_BadClaim) (.ref cs.C_HostError) = some true
  exm_BadClaim_HostError : PySem.W.exmOne K (.ref cs.C_BadClaim) (.ref cs.C_HostError) = some true
  kit_BadClaim_BadClaim : PySem.W.kitOne K (.ref cs.C_BadClaim) (.ref cs.C_BadClaim) = some true
  exm_BadClaim_BadClaim : PySem.W.exmOne K (.ref cs.C_BadClaim) (.ref cs.C_BadClaim) = some true
  kit_BadClaim_VE : PySem.W.kitOne K (.ref cs.C_BadClaim) (.type "ValueError") = some true
  i_MOST_STEPS : ∃ t, mg "MOST_STEPS" = some (.int 2000 t)
/-! ### own errors without fields -/
section
variable {X : Cx} {C : Addr} {bmB : List Value} {B newId initId : String}
/-- X() -/
theorem pmk_own0 {x : Str} {p pos : Pos} (F : ExcBaseFacts B newId initId bmB) (q : PySem.W.excIn X.K C bmB newId = true) (gC : X.mg x = some (.ref C)) (kC : PySem.W.keepIn X.K (.ref C) = true) (r : Raises X (.ref C)) (hg : Gl X x)
    (hdb : (x == ("__debug__" : Str)) = false := by decide) : PMk X (.Call (.Name x p) [] [] pos) (fun _ H Q => Q (.ref C) none H) := by
  intro pins s σ H Q I h
  refine wpAny_Call_Name_kw (ld_glob I hg gC ?_ hdb)
  refine PySem.W.callWith_K0 I.kIn kC ?_
  show wpAny _ _ (call (.ref C) []) _ _ _
  obtain ⟨bm, N, nm, qn, bs, hdct, sn, sub, ab, col, dd, k0, k1, k2, k3, k5, mN, hC, hN, hni, T⟩ := exc_obj I.kIn q
  refine wpAny_call_exc_subT F T hC hN hni (fun h' e hm => ?_) (by show 0 ≤ sizeLine; rw [sizeLine_eq]; omega)
  exact mk_of I hm r h (I.hok.gone hm.new)
end
/-- isinstance(e, c), e the caught error at a, of the class D, without a dict -/
theorem call_isX0 {X : Cx} {a D : Addr} {oe : Obj} {cls : Value} {d : Option Addr} {pn : List (Addr × Obj)} (hz : Zc cls d oe) (hf : ∃ vs, oe.data = .fields vs) (C : ExcC X.K D) : CallR (X.suite a ((a, oe) :: pn)) (.builtin "isinstance")
    (fun xs H Q => ∃ (c : V) (cv : Value) (b : Bool), xs = [.ref a, c] ∧ cls = .ref D ∧ d = none ∧ (∀ u, RelV c u → u = cv) ∧ PySem.W.kitOne X.K (.ref D) cv = some b ∧ Q (.bl b) H) := by
  intro pins s σ H xs us Q I r h
  obtain ⟨c, cv, b, rfl, rfl, rfl, hcv, e, q⟩ := h
  exact call_isE C hz hf pins s σ H _ us Q I r ⟨c, cv, b, rfl, hcv, e, q⟩

section
variable {X : Cx} {s : Shared} {H : Hp} {sc : Scope} {en : Env} {fp : List Addr}
theorem sl_tupB : SlR (X.blk s H sc en fp) (rSlT X.K) := sl_tup
theorem pi_listT {tg iter : Expr} {te : TE} {pn : List (Addr × Obj)} {xe : Value → Shared → Prop} (he : PE (X.tr pn xe) iter te) : PI (X.tr pn xe) tg iter (iList X.K te) := pi_list he
theorem ix_tupTr {pn : List (Addr × Obj)} {xe : Value → Shared → Prop} : IxR (X.tr pn xe) (L2.rIxT X.K) := ix_tup
theorem ix_listTr {pn : List (Addr × Obj)} {xe : Value → Shared → Prop} : IxR (X.tr pn xe) (L2.rIxL X.K) := ix_list
theorem sl_tupBT {pn : List (Addr × Obj)} {xe : Value → Shared → Prop} : SlR ((X.tr pn xe).blk s H sc en fp) (rSlT X.K) := sl_tup
theorem op_catTB : OpR (X.blk s H sc en fp) (binaryOp .Add) (rCatT X.K) := op_catT
theorem op_neDB (hu : X.A.units + 64 < cLine) : OpR (X.blk s H sc en fp) (compareOp .NotEq) (rNeD X.K) := op_neD (X := X.blk s H sc en fp) hu
theorem op_eqDB (hu : X.A.units + 64 < cLine) : OpR (X.blk s H sc en fp) (compareOp .Eq) (rEqD X.K) := op_eqD (X := X.blk s H sc en fp) hu
end

/-! ### lists of ints that are the same -/
theorem dp_all {K : PySem.W.Frag} {H : Hp} : ∀ ns : List Int, DpAll K H (ns.map V.int) (ns.map PyData.int)
  | [] => .nil
  | _ :: r => .cons (.int _) (dp_all r)
theorem canlay_ints : ∀ ns : List Int, PyData.canLayAll0 (ns.map PyData.int) = true
  | [] => rfl
  | _ :: r => by
    show PyData.canLayAll0 (PyData.int _ :: r.map PyData.int) = true
    simp only [PyData.canLayAll0, PyData.canLay0, canlay_ints r, Bool.and_self]
theorem depth_ints : ∀ ns : List Int, PyData.depthAll (ns.map PyData.int) ≤ 63
  | [] => by simp [PyData.depthAll]
  | _ :: r => by
    have h := depth_ints r
    simp [PyData.depthAll, PyData.depth] at h ⊢
    exact h
theorem shaped_ints (ns : List Int) : SeqAt.shaped (.list (ns.map PyData.int)) = true := by
  unfold SeqAt.shaped
  rw [Bool.and_eq_true]
  refine ⟨?_, decide_eq_true ?_⟩
  · simp only [PyData.canLay0, canlay_ints]
  · have h := depth_ints ns
    simp only [PyData.depth] at h ⊢
    omega
theorem eqD_same {K : PySem.W.Frag} {H : Hp} {x y : V} {d : PyData} {Q : VK} (h1 : Dp K H x d) (h2 : Dp K H y d) (s : SeqAt.shaped d = true) (q : Q (.bl true) H) : rEqD K x y H Q :=
  ⟨d, d, h1, h2, s, s, by rw [SeqAt.eqv_refl d (SeqAt.canLay_of_shaped s)]; exact q⟩
theorem neD_same {K : PySem.W.Frag} {H : Hp} {x y : V} {d : PyData} {Q : VK} (h1 : Dp K H x d) (h2 : Dp K H y d) (s : SeqAt.shaped d = true) (q : Q (.bl false) H) : rNeD K x y H Q :=
  ⟨d, d, h1, h2, s, s, by rw [SeqAt.eqv_refl d (SeqAt.canLay_of_shaped s)]; exact q⟩
theorem dp_ints {K : PySem.W.Frag} {H : Hp} {a : Addr} {ns : List Int} (h : SqL K H a (ns.map V.int)) : Dp K H (.ref a) (.list (ns.map PyData.int)) := .lst h (dp_all ns)
theorem eqv_ints (ns : List Int) : PyData.eqv (.list (ns.map PyData.int)) (.list (ns.map PyData.int)) = true := SeqAt.eqv_refl _ (SeqAt.canLay_of_shaped (shaped_ints ns))

/-! ### ifs and tests whose answer is known -/
theorem ifNe {x y : Int} {A B : Prop} (e : x = y) (h : B) : if (!decide (V.int x = V.int y)) = true then A else B := by
  subst e
  rw [decide_eq_true rfl]
  exact h
theorem ifNeN {x y : Int} {A B : Prop} (e : ¬ x = y) (h : A) : if (!decide (V.int x = V.int y)) = true then A else B := by
  rw [decide_eq_false (fun z => e (V.int.inj z))]
  exact h
theorem eqT {x y : Int} (e : x = y) : decide (V.int x = V.int y) = true := decide_eq_true (congrArg V.int e)
theorem qT {x y : Int} {Q : VK} {H : Hp} (e : x = y) (h : Q (.bl true) H) : Q (.bl (decide (V.int x = V.int y))) H := by rw [eqT e]; exact h
theorem orV {t u : TE} {σ : L2.St} {H : Hp} {Q : VK} (b1 b2 : Bool) (h1 : ∀ Q, (∀ H', Same H H' → Q (.bl b1) H') → t σ H Q) (h2 : ∀ H' Q, Q (.bl b2) H' → u σ H' Q) (q : ∀ H', Same H H' → Q (.bl (b1 || b2)) H') : tOrV t u σ H Q := by
  refine h1 _ fun H' s => ⟨b1, rfl, ?_⟩
  cases b1 with
  | true => rw [if_pos rfl]; exact q _ s
  | false => rw [if_neg (by decide)]; exact h2 _ _ (q _ s)
theorem andV {t u : TE} {σ : L2.St} {H : Hp} {Q : VK} (b1 b2 : Bool) (h1 : ∀ Q, Q (.bl b1) H → t σ H Q) (h2 : ∀ Q, Q (.bl b2) H → u σ H Q) (q : Q (.bl (b1 && b2)) H) : tAndV t u σ H Q := by
  refine h1 _ ⟨b1, rfl, ?_⟩
  cases b1 with
  | true => rw [if_pos rfl]; exact h2 _ q
  | false => rw [if_neg (by decide)]; exact q
theorem orF {t u : TT} {σ : L2.St} {H : Hp} {Q : Bool → Hp → Prop} (h1 : ∀ Q, (∀ H', Same H H' → Q false H') → t σ H Q) (h2 : ∀ H', Same H H' → ∀ Q, (∀ H'', Same H' H'' → Q false H'') → u σ H' Q) (q : ∀ H', Same H H' → Q false H') : tOr t u σ H Q := by
  refine h1 _ fun H' s => ?_
  rw [if_neg (by decide)]
  exact h2 _ s _ fun H'' s' => q _ (s.trans s')
theorem neF {x y : Int} {Q : Bool → Hp → Prop} {H : Hp} (e : x = y) (h : Q false H) : Q (!decide (V.int x = V.int y)) H := by rw [eqT e]; exact h
theorem ifEq {x y : Int} {A B : Prop} (e : x = y) (h : A) : if decide (V.int x = V.int y) = true then A else B := by rw [eqT e]; exact h
theorem ifEqN {x y : Int} {A B : Prop} (e : ¬ x = y) (h : B) : if decide (V.int x = V.int y) = true then A else B := by
  rw [decide_eq_false (fun z => e (V.int.inj z))]; exact h
theorem ifS {x y : Str} {A B : Prop} (e : x = y) (h : A) : if decide (V.str x = V.str y) = true then A else B := by rw [if_pos (decide_eq_true (congrArg V.str e))]; exact h
theorem ifSN {x y : Str} {A B : Prop} (e : ¬ x = y) (h : B) : if decide (V.str x = V.str y) = true then A else B := by
  rw [if_neg (fun z => e (V.str.inj (of_decide_eq_true z)))]; exact h
theorem ifNeS {x y : Str} {A B : Prop} (e : x = y) (h : B) : if (!decide (V.str x = V.str y)) = true then A else B := by
  subst e
  rw [decide_eq_true rfl]
  exact h
theorem qTS {x y : Str} {Q : VK} {H : Hp} (e : x = y) (h : Q (.bl true) H) : Q (.bl (decide (V.str x = V.str y))) H := by rw [decide_eq_true (congrArg V.str e)]; exact h
theorem call_isiS {X : Cx} {a : Addr} {ps : List (Addr × Obj)} : CallR (X.suite a ps) (.builtin "isinstance") (rIsi X.K) := call_isi
theorem for_tupE {K : PySem.W.Frag} {a : Addr} {xs : List V} {g : TG} {tb : TS} {nx : L2.St → Hp → Prop} {rt : VK} {σ : L2.St} {H : Hp} (Pv : Nat → L2.St → Hp → Prop) (h0 : Pv 0 σ H) (hl : ∀ i σ H, i ≤ xs.length → Pv i σ H → SqT K H a xs)
    (hs : ∀ i x σ H, xs[i]? = some x → Pv i σ H → g x σ H fun σ2 H2 => tb { nx := Pv (i + 1), rt := rt, bk := nx, ct := Pv (i + 1) } σ2 H2) (hd : ∀ σ H, Pv xs.length σ H → nx σ H) :
    ∃ W : Nat → Nat → L2.St → Hp → Prop, (∃ m, W 0 m σ H) ∧ ∀ i m σ H, W i m σ H → ((Itt K a).stop i H ∧ nx σ H) ∨ ((Itt K a).go i H ∧ ∃ N : L2.St → Hp → Prop, (∀ σ' H', N σ' H' → ∃ m', m' < m ∧ W (i + 1) m' σ' H') ∧
      ∀ x H', (Itt K a).yld i H x H' → g x σ H' fun σ2 H2 => tb { nx := N, rt := rt, bk := nx, ct := N } σ2 H2) := for_tup (D := { nx := nx, rt := rt }) Pv h0 hl hs hd
theorem isi_bool {K : PySem.W.Frag} {H : Hp} {b : Bool} {Q : VK} (q : Q (.bl true) H) : rIsi K [.bl b, .ty "bool"] H Q := ⟨.bl b, .ty "bool", _, _, true, rfl, .ty _, .base (.bl _), kit_ty (by decide +kernel), q⟩
theorem ne_of_nd {x y : Int} (h : (!decide (V.int x = V.int y)) = true) : ¬ x = y := fun e => by
  rw [decide_eq_true (congrArg V.int e)] at h; cases h
theorem eq_of_nd {x y : Int} (h : ¬ (!decide (V.int x = V.int y)) = true) : x = y := by
  by_cases e : x = y
  · exact e
  · exact absurd (by rw [decide_eq_false (fun z => e (V.int.inj z))]; rfl) h
theorem eq_of_d {x y : Int} (h : decide (V.int x = V.int y) = true) : x = y := V.int.inj (of_decide_eq_true h)
theorem ne_of_d {x y : Int} (h : ¬ decide (V.int x = V.int y) = true) : ¬ x = y := fun e => h (decide_eq_true (congrArg V.int e))
theorem sign_of (d : Nat) : -1 ≤ ([1, -1] : List Int).getD d 0 ∧ ([1, -1] : List Int).getD d 0 ≤ 1 := by
  match d with
  | 0 => decide
  | 1 => decide
  | _ + 2 => exact (by decide : (-1 : Int) ≤ 0 ∧ (0 : Int) ≤ 1)
section
variable {X : Cx} {s : Shared} {H : Hp} {sc : Scope} {en : Env} {fp : List Addr}
theorem ix_listB : IxR (X.blk s H sc en fp) (L2.rIxL X.K) := ix_list
theorem ix_tupB : IxR (X.blk s H sc en fp) (L2.rIxT X.K) := ix_tup
theorem call_isiB : CallR (X.blk s H sc en fp) (.builtin "isinstance") (rIsi X.K) := call_isi
end
theorem andIf {t : TE} {σ : L2.St} {H : Hp} {Q : VK} {b1 b2 : Bool} (h : ∀ Q', Q' (.bl b2) H → t σ H Q') (q : Q (.bl (b1 && b2)) H) : if b1 = true then t σ H Q else Q (.bl false) H := by
  cases b1 with
  | true => exact h _ q
  | false => exact q
theorem op_eqDS {X : Cx} {a : Addr} {ps : List (Addr × Obj)} (hu : X.A.units + 64 < cLine) : OpR (X.suite a ps) (compareOp .Eq) (rEqD X.K) := op_eqD (X := X.suite a ps) hu
theorem isi_of {K : PySem.W.Frag} {H : Hp} {x : V} {n : String} {t : Value} {b : Bool} {Q : VK} (h : TyX K H x t) (k : PySem.W.kitOne K t (.type n) = some b) (q : Q (.bl b) H) : rIsi K [x, .ty n] H Q := ⟨x, .ty n, t, _, b, rfl, .ty _, h, k, q⟩

/-! ### lists of texts, heaps that grow -/
theorem newE {H H' : Hp} {p : Addr} {xs : List V} {zs : List Str} (h : H p = none) (e : upd H p (.lst xs) = H') (hx : xs = zs.map V.str) : Same H H' ∧ H' p = some (.lst (zs.map V.str)) := by
  subst e hx
  exact ⟨Same.new h, upd_same⟩
theorem at_strs {zs : List Str} {k : Nat} (h : k < zs.length) : ∃ z ∈ zs, atI (zs.map V.str) (k : Int) = some (.str z) :=
  ⟨zs[k], List.getElem_mem h, atI_nat (by rw [List.getElem?_map, List.getElem?_eq_getElem h]; rfl)⟩
theorem none_of {H H' : Hp} {p : Addr} (s : Same H H') (h : H' p = none) : H p = none := by
  cases e : H p with
  | none => rfl
  | some o => rw [s _ _ e] at h; cases h
theorem catE {H : Hp} {l b : Addr} {zs ys : List Str} {Q : VK} (hl : H l = some (.lst (zs.map V.str))) (hb : H b = some (.lst (ys.map V.str))) (hn : zs.length + ys.length ≤ 1000) (q : ∀ p H', Same H H' → H p = none → H' p = some (.lst ((zs ++ ys).map V.str)) → Q (.ref p) H') : rCat (.ref l) (.ref b) H Q :=
  ⟨l, b, _, _, rfl, rfl, hl, hb, by rw [List.length_map, List.length_map]; exact small64 (by omega), fun p hp => q p _ (Same.new hp) hp (by rw [upd_same, List.map_append])⟩
def LstS (H : Hp) (Q : VK) (zs : List Str) : Prop := ∀ p H', Same H H' → H p = none → H' p = some (.lst (zs.map V.str)) → Q (.ref p) H'
theorem lc_mapS {K : PySem.W.Frag} {a : Addr} {zs : List Str} {j : Nat} {te : TE} {σ : L2.St} {H1 : Hp} {D : Addr} {Qd : Hp → Prop} (f : Str → Str) (hD : H1 D = none) (hS : SqL K H1 a (zs.map V.str)) (hn : zs.length ≤ 100000)
    (hs : ∀ z H Q, z ∈ zs → Same H1 H → (∀ H', Same H H' → Q (.str (f z)) H') → te ((σ.set j none).set j (some (.str z))) H Q) (hd : ∀ H, Same H1 H → H D = some (.lst ((zs.map f).map V.str)) → Qd H) :
    ∃ W : Nat → Nat → Hp → Prop, (∃ m, W 0 m (upd H1 D (.lst []))) ∧ ∀ i m H, W i m H →
      ((Itl K a).stop i H ∧ Qd H) ∨ ((Itl K a).go i H ∧ ∃ Nx : Hp → Prop, (∀ H', Nx H' → ∃ m', m' < m ∧ W (i + 1) m' H') ∧ ∀ x H', (Itl K a).yld i H x H' → gName j x (wipe σ [j]) H' fun σ2 H2 => wipe σ2 [j] = wipe σ [j] ∧ tYes σ2 H2 fun b H3 =>
        if b = true then te σ2 H3 fun y H4 => ∃ acc, H4 D = some (.lst acc) ∧ acc.length < sizeLine ∧ Nx (upd H4 D (.lst (acc ++ [y]))) else Nx H3) := by
  refine lc_map (f := fun v => match v with | .str z => .str (f z) | v => v) hD hS (by rw [List.length_map]; exact hn) (fun x H2 Q2 hx s2 q2 => ?_) (fun H2 s2 hD2 => ?_)
  · obtain ⟨z, hz, rfl⟩ := List.mem_map.mp hx
    exact hs z H2 Q2 hz s2 q2
  · refine hd H2 s2 ?_
    rw [hD2, List.map_map, List.map_map]; rfl
theorem flat_strs : ∀ zs : List Str, (zs.map V.str).all flatV = true
  | [] => rfl
  | _ :: r => flat_strs r
theorem inV_mem (z : Str) (zs : List Str) : inV (.str z) (zs.map V.str) = true ↔ z ∈ zs := by
  unfold inV
  rw [List.any_map, List.any_eq_true]
  constructor
  · rintro ⟨y, hy, e⟩
    have e' : (y == z) = true := e
    rw [← eq_of_beq e']; exact hy
  · intro h
    exact ⟨z, h, (beq_self_eq_true z : (z == z) = true)⟩

/-- a name that the module binds to an int -/
theorem pe_gint {X : Cx} {x : Str} {p : Pos} {i : Int} (hg : Gl X x) (hm : ∃ t, X.mg x = some (.int i t)) (hdb : (x == ("__debug__" : Str)) = false := by decide) : PE X (.Name x p) (tC (.int i)) := by
  obtain ⟨t, h⟩ := hm
  exact pe_glob hg h ⟨t, rfl⟩ hdb

/-! ### a loop over zip of two -/
theorem sqT_same {K : PySem.W.Frag} {H H' : Hp} {a : Addr} {xs : List V} (e : Same H H') (h : SqT K H a xs) : SqT K H' a xs := by
  rcases h with (h | ⟨o, h⟩) | h
  · exact .inl (.inl (e _ _ h))
  · exact .inl (.inr ⟨o, e _ _ h⟩)
  · exact .inr h
theorem for_zipD {K : PySem.W.Frag} {a b : Addr} {xs ys : List V} {g : TG} {tb : TS} {nx : L2.St → Hp → Prop} {rt : VK} {σ : L2.St} {H : Hp} (hl : xs.length = ys.length) (Pv : Nat → L2.St → Hp → Prop) (h0 : Pv 0 σ H) (hq : ∀ i σ H, Pv i σ H → SqT K H a xs ∧ SqT K H b ys)
    (hs : ∀ (i : Nat) (x y : V) (T : Addr) (σ : L2.St) (H : Hp), xs[i]? = some x → ys[i]? = some y → Pv i σ H → H T = none → g (.ref T) σ (upd H T (.tup [x, y])) fun σ2 H2 => tb { nx := Pv (i + 1), rt := rt, bk := nx, ct := Pv (i + 1) } σ2 H2) (hd : ∀ σ H, Pv xs.length σ H → nx σ H) :
    ∃ W : Nat → Nat → L2.St → Hp → Prop, (∃ m, W 0 m σ H) ∧ ∀ i m σ H, W i m σ H → ((RZ.ItzT K a b).stop i H ∧ nx σ H) ∨ ((RZ.ItzT K a b).go i H ∧ ∃ N : L2.St → Hp → Prop, (∀ σ' H', N σ' H' → ∃ m', m' < m ∧ W (i + 1) m' σ' H') ∧
      ∀ x H', (RZ.ItzT K a b).yld i H x H' → g x σ H' fun σ2 H2 => tb { nx := N, rt := rt, bk := nx, ct := N } σ2 H2) := RZ.for_zipT (D := { nx := nx, rt := rt }) hl Pv h0 hq hs hd
/-! ### a comprehension over a range, whose items are drawn -/
theorem lc_anyR {n j : Nat} {te : TE} {σ : L2.St} {H1 : Hp} {D : Addr} {Qd : Hp → Prop} (φ : V → Prop) (hD : H1 D = none) (hn : n ≤ 100000)
    (hs : ∀ i H Q, i < n → Same H1 H → (∀ y H', φ y → Same H H' → Q y H') → te ((σ.set j none).set j (some (.int i))) H Q) (hd : ∀ xs H, xs.length = n → (∀ x ∈ xs, φ x) → Same H1 H → H D = some (.lst xs) → Qd H) :
    ∃ W : Nat → Nat → Hp → Prop, (∃ m, W 0 m (upd H1 D (.lst []))) ∧ ∀ i m H, W i m H →
      ((Itr 0 n).stop i H ∧ Qd H) ∨ ((Itr 0 n).go i H ∧ ∃ Nx : Hp → Prop, (∀ H', Nx H' → ∃ m', m' < m ∧ W (i + 1) m' H') ∧ ∀ x H', (Itr 0 n).yld i H x H' → gName j x (wipe σ [j]) H' fun σ2 H2 => wipe σ2 [j] = wipe σ [j] ∧ tYes σ2 H2 fun b H3 =>
        if b = true then te σ2 H3 fun y H4 => ∃ acc, H4 D = some (.lst acc) ∧ acc.length < sizeLine ∧ Nx (upd H4 D (.lst (acc ++ [y]))) else Nx H3) := by
  refine lc_range (fun i H => Same H1 H ∧ ∃ xs : List V, xs.length = i ∧ (∀ x ∈ xs, φ x) ∧ H D = some (.lst xs)) ⟨Same.new hD, [], rfl, (fun _ z => nomatch z), upd_same⟩ (fun i H hi h => ?_) (fun H h => by obtain ⟨s, xs, hl, hx, hk⟩ := h; exact hd xs H hl hx s hk)
  rw [Int.zero_add]
  obtain ⟨s, xs, hl, hx, hk⟩ := h
  refine ⟨?_, ?_⟩
  · show (((σ.set j none).set j (some (V.int i))).set j none) = σ.set j none
    rw [List.set_set, List.set_set]
  · simp only [tYes, if_true]
    refine hs i H _ hi s fun y H' hy s' => ?_
    refine ⟨_, s' _ _ hk, ?_, fun b o e => ?_, xs ++ [y], ?_, fun x hx' => ?_, upd_same⟩
    · exact small64' (by omega)
    · have nb : b ≠ D := fun z => by rw [z, hD] at e; cases e
      rw [upd_ne nb]; exact s' _ _ (s _ _ e)
    · rw [List.length_append, hl]; rfl
    · rcases List.mem_append.mp hx' with z | z
      · exact hx x z
      · rw [List.mem_singleton] at z; rw [z]; exact hy
theorem ints_of {ψ : Int → Prop} : ∀ {xs : List V}, (∀ x ∈ xs, ∃ n, x = .int n ∧ ψ n) → ∃ ns : List Int, xs = ns.map V.int ∧ ∀ n ∈ ns, ψ n
  | [], _ => ⟨[], rfl, fun _ z => nomatch z⟩
  | x :: r, h => by
    obtain ⟨n, rfl, hn⟩ := h x (List.mem_cons_self ..)
    obtain ⟨ns, rfl, hns⟩ := ints_of fun y hy => h y (List.mem_cons_of_mem _ hy)
    refine ⟨n :: ns, rfl, fun m hm => ?_⟩
    rcases List.mem_cons.mp hm with e | hm
    · rw [e]; exact hn
    · exact hns m hm
theorem strs_of {ψ : Str → Prop} : ∀ {xs : List V}, (∀ x ∈ xs, ∃ z, x = .str z ∧ ψ z) → ∃ zs : List Str, xs = zs.map V.str ∧ ∀ z ∈ zs, ψ z
  | [], _ => ⟨[], rfl, fun _ z => nomatch z⟩
  | x :: r, h => by
    obtain ⟨n, rfl, hn⟩ := h x (List.mem_cons_self ..)
    obtain ⟨ns, rfl, hns⟩ := strs_of fun y hy => h y (List.mem_cons_of_mem _ hy)
    refine ⟨n :: ns, rfl, fun m hm => ?_⟩
    rcases List.mem_cons.mp hm with e | hm
    · rw [e]; exact hn
    · exact hns m hm

/-! ### a tape of numbers made from the script, and draws from it -/
def Nn (ts : List Int) : Prop := ∀ x ∈ ts, 0 ≤ x
theorem nn_nil : Nn [] := fun _ h => nomatch h
theorem Nn.snoc {ts : List Int} (h : Nn ts) {x : Int} (hx : 0 ≤ x) : Nn (ts ++ [x]) := fun y hy => by
  rcases List.mem_append.mp hy with hy | hy
  · exact h y hy
  · rw [List.mem_singleton] at hy; omega
def LstT (H : Hp) (Q : VK) (xs : List Int) : Prop := ∀ p H', Same H H' → H p = none → H' p = some (.lst (xs.map V.int)) → Q (.ref p) H'
def sp__law_tape (K : PySem.W.Frag) (cs : Cs) : Sp := fun vs H Q _ => ∃ (a : Addr) (ns : List Int), vs = [.ref a] ∧ SqL K H a (ns.map V.int) ∧ ns.length ≤ 63 ∧ ∀ ts : List Int, Nn ts → ts.length ≤ 2520 → LstT H Q ts
def sp__law_draw (K : PySem.W.Frag) (cs : Cs) : Sp := fun vs H Q _ => ∃ (a : Addr) (ts : List Int) (p : Int) (m : Int), vs = [.ref a, .int p, .int m] ∧ SqL K H a (ts.map V.int) ∧ (0 ≤ p ∧ p ≤ 1000000) ∧ 0 < m ∧ ∀ v : Int, 0 ≤ v → v < m → Q (.int v) H
section
variable {P : Program} {w : World} {K : PySem.W.Frag} {mg : Str → Option Value} {base : Heap} {cs : Cs}
theorem c__law_tape (D : Def K mg "_law_tape" s__law_tape ["script"]) (T : Tp w K mg cs)  : Cal P w K mg base CX0 1 "_law_tape" (sp__law_tape K cs) := by
  refine D.ok sc__law_tape (fun vs H Q E h => ?_) (fun f cdv A outer s H vs Q E hr h => ?_)
  · obtain ⟨a, ns, rfl, _⟩ := h; rfl
  · obtain ⟨a, ns, rfl, hS, hlen, q⟩ := h
    refine ⟨_, (pss_cons (ps_set (i := 1) sc__law_tape.nd rfl (by first | exact Or.inl rfl | exact Or.inr rfl) (pe_lst pa_nil))
      (pss_cons (ps_for PassesOwn.never rfl (pi_list (pv 0)) (pg_name (i := 2) sc__law_tape.nd rfl (by first | exact Or.inl rfl | exact Or.inr rfl)) (pss_cons (ps_set (i := 3) sc__law_tape.nd rfl (by first | exact Or.inl rfl | exact Or.inr rfl) (pe_op op_mul pe_int (pe_callTy call_int1 (by rfl) T.m_int (by decide +kernel) (pa_cons (pv 2) pa_nil))))
      (C8.pss_cut (ps_if (pt_cmpR op_lt (pv 3) pe_int (by first | rfl | exact nomark _)) (pss_one (ps_set (i := 3) sc__law_tape.nd rfl (by first | exact Or.inl rfl | exact Or.inr rfl) (pe_op op_sub (pe_un un_neg pe_int) (pv 3)))) pss_nil)
      (pss_one (ps_if (pt_cmpR op_ge (pv 3) (pe_op op_pow pe_int pe_int) (by first | rfl | exact nomark _)) (pss_one (ps_for PassesOwn.never rfl (pi_range1 (by rfl) T.m_range (pa_cons pe_int pa_nil)) (pg_name (i := 4) sc__law_tape.nd rfl (by first | exact Or.inl rfl | exact Or.inr rfl)) (pss_one (ps_if (pt_cmpR op_gt (pv 3) pe_int (by first | rfl | exact nomark _)) (pss_cons (ps_expr (pe_bm PySem.F.plainAttrs_list PySem.F.slot_list_append PySem.F.type_list_append mt_append (pv 1) (pa_cons (pe_op op_mod (pe_callTy call_int1 (by rfl) T.m_int (by decide +kernel) (pa_cons (pv 3) pa_nil)) pe_int) pa_nil)))
      (pss_one (ps_set (i := 3) sc__law_tape.nd rfl (by first | exact Or.inl rfl | exact Or.inr rfl) (pe_op op_fdiv (pv 3) pe_int)))) pss_nil)))) (pss_one (ps_for PassesOwn.never rfl (pi_range1 (by rfl) T.m_range (pa_cons pe_int pa_nil)) (pg_name (i := 4) sc__law_tape.nd rfl (by first | exact Or.inl rfl | exact Or.inr rfl)) (pss_cons (ps_set (i := 5) sc__law_tape.nd rfl (by first | exact Or.inl rfl | exact Or.inr rfl) (pe_op op_mod (pe_callTy call_int1 (by rfl) T.m_int (by decide +kernel) (pa_cons (pe_op op_add (pe_op op_add (pe_op op_mul (pv 3) pe_int) (pe_op op_mul (pv 4) pe_int)) pe_int) pa_nil)) pe_int))
      (pss_one (ps_expr (pe_bm PySem.F.plainAttrs_list PySem.F.slot_list_append PySem.F.type_list_append mt_append (pv 1) (pa_cons (pe_op op_mod (pe_callTy call_int1 (by rfl) T.m_int (by decide +kernel) (pa_cons (pe_op op_add (pe_op op_mul (pv 5) pe_int) (pe_op op_fdiv (pv 5) pe_int)) pa_nil)) pe_int) pa_nil))))))))))))
      (pss_one (ps_ret (pv 1))))), ?_⟩
    walk_at "go"
    intro p hp
    generalize e1 : upd H p (.lst []) = H1
    obtain ⟨s1, k1⟩ : Same H H1 ∧ H1 p = some (.lst (([] : List Int).map V.int)) := by subst e1; exact ⟨Same.new hp, upd_same⟩
    refine ⟨_, rfl, a, rfl, ⟨_, s1.seq hS⟩, for_listD (xs := ns.map V.int) (fun i σ H2 => ∃ (ts : List Int) (o2 o3 o4 o5 : Option V), σ = [some (.ref a), some (.ref p), o2, o3, o4, o5] ∧ Nn ts ∧ ts.length ≤ 40 * i ∧ Same H H2 ∧ H2 p = some (.lst (ts.map V.int)))
      ⟨[], _, _, _, _, rfl, nn_nil, Nat.le_refl _, s1, k1⟩ (fun i σ H2 _ h => by obtain ⟨ts, o2, o3, o4, o5, _, _, _, s2, _⟩ := h; exact s2.seq hS) ?_ ?_⟩
    · rintro i x _ H2 hx ⟨ts, o2, o3, o4, o5, rfl, hN, hl, s2, k2⟩
      obtain ⟨n, rfl⟩ : ∃ n, x = .int n := by
        rw [List.getElem?_map] at hx
        cases e : ns[i]? with
        | none => rw [e] at hx; cases hx
        | some k => rw [e] at hx; cases hx; exact ⟨k, rfl⟩
      have hi : i < ns.length := by
        have := (List.getElem?_eq_some_iff.mp hx).1
        rw [List.length_map] at this; exact this
      walk_at "go"
      refine ⟨fun σ H3 => H2 = H3 ∧ ∃ m : Int, 0 ≤ m ∧ σ = [some (.ref a), some (.ref p), some (.int n), some (.int m), o4, o5], ?_, ?_⟩
      · walk_at "go"
        refine ite2 (fun c => ?_) (fun c => ?_)
        · have c' : 2 * n < 0 := of_decide_eq_true c
          walk_at "go"
          exact ⟨_, by omega, rfl⟩
        · have c' : ¬ 2 * n < 0 := of_decide_eq_false (Bool.eq_false_iff.mpr c)
          exact ⟨rfl, _, by omega, rfl⟩
      rintro _ _ ⟨rfl, m, hm, rfl⟩
      walk_at "go"
      refine ite2 (fun c => ?_) (fun c => ?_)
      · refine ⟨_, rfl, by decide, by decide, for_rangeD (lo := 0) (n := 40) (fun j σ H3 => ∃ (ts' : List Int) (m' : Int) (o : Option V), σ = [some (.ref a), some (.ref p), some (.int n), some (.int m'), o, o5] ∧ Nn ts' ∧ ts'.length ≤ 40 * i + j ∧ Same H H3 ∧ H3 p = some (.lst (ts'.map V.int)))
          ⟨ts, m, _, rfl, hN, by omega, s2, k2⟩ ?_ ?_⟩
        · rintro j _ H3 hj ⟨ts', m', o, rfl, hN', hl', s3, k3⟩
          walk_at "go"
          refine ite2 (fun c => ?_) (fun c => ?_)
          · refine ⟨_, rfl, .inl ⟨rfl, _, SqL.of k3⟩, ?_⟩
            walk_at "go"
            refine ⟨_, _, _, rfl, rfl, k3, (by rw [List.length_map]; exact small64' (by omega)), ?_⟩
            walk_at "go"
            refine ⟨ts' ++ [m' % 1000], _, _, rfl, hN'.snoc (by omega), by rw [List.length_append, List.length_singleton]; omega, fun b o e => ?_, ?_⟩
            · rw [upd_ne (ne_of_none e hp)]; exact s3 _ _ e
            · rw [upd_same, List.map_append]; rfl
          · exact ⟨ts', m', _, rfl, hN', by omega, s3, k3⟩
        · rintro _ H3 ⟨ts', m', o, rfl, hN', hl', s3, k3⟩
          exact ⟨ts', _, _, _, _, rfl, hN', by omega, s3, k3⟩
      · refine ⟨_, rfl, by decide, by decide, for_rangeD (lo := 0) (n := 3) (fun j σ H3 => ∃ (ts' : List Int) (o o' : Option V), σ = [some (.ref a), some (.ref p), some (.int n), some (.int m), o, o'] ∧ Nn ts' ∧ ts'.length ≤ 40 * i + j ∧ Same H H3 ∧ H3 p = some (.lst (ts'.map V.int)))
          ⟨ts, _, _, rfl, hN, by omega, s2, k2⟩ ?_ ?_⟩
        · rintro j _ H3 hj ⟨ts', o, o', rfl, hN', hl', s3, k3⟩
          walk_at "go"
          refine ⟨.inl ⟨rfl, _, SqL.of k3⟩, ?_⟩
          walk_at "go"
          generalize (m * 48271 + (0 + (j : Int)) * 40503 + 11) % 2147483629 = fi
          refine ⟨_, _, _, rfl, rfl, k3, (by rw [List.length_map]; exact small64' (by omega)), ?_⟩
          walk_at "go"
          refine ⟨ts' ++ [(fi * 69621 + fi / 65536) % 2147483629], _, _, rfl, hN'.snoc (by omega), by rw [List.length_append, List.length_singleton]; omega, fun b o e => ?_, ?_⟩
          · rw [upd_ne (ne_of_none e hp)]; exact s3 _ _ e
          · rw [upd_same, List.map_append]; rfl
        · rintro _ H3 ⟨ts', o, o', rfl, hN', hl', s3, k3⟩
          exact ⟨ts', _, _, _, _, rfl, hN', by omega, s3, k3⟩
    · rintro _ H2 ⟨ts, o2, o3, o4, o5, rfl, hN, hl, s2, k2⟩
      rw [List.length_map] at hl
      walk_at "go"
      exact q ts hN (by omega) p H2 s2 hp k2
theorem c__law_draw (D : Def K mg "_law_draw" s__law_draw ["tape", "at", "many"]) (T : Tp w K mg cs)  : Cal P w K mg base CX0 1 "_law_draw" (sp__law_draw K cs) := by
  refine D.ok sc__law_draw (fun vs H Q E h => ?_) (fun f cdv A outer s H vs Q E hr h => ?_)
  · obtain ⟨a, ts, p, m, rfl, _⟩ := h; rfl
  · obtain ⟨a, ts, p, m, rfl, hS, ⟨hp0, hp⟩, hm, q⟩ := h
    obtain ⟨p, rfl⟩ := Int.eq_ofNat_of_zero_le hp0
    refine ⟨_, (pss_cons (ps_if (pt_cmpR op_lt (pv 1) (pe_callB call_len_seq (by rfl) T.m_len PySem.boot_len (pa_cons (pv 0) pa_nil)) (by first | rfl | exact nomark _)) (pss_one (ps_ret (pe_op op_mod (pe_callTy call_int1 (by rfl) T.m_int (by decide +kernel) (pa_cons (pe_ix ix_list (pv 0) (pv 1) (fun _ _ => rfl)) pa_nil)) (pv 2)))) pss_nil)
      (pss_cons (ps_set (i := 3) sc__law_draw.nd rfl (by first | exact Or.inl rfl | exact Or.inr rfl) pe_int)
      (C8.pss_cut (ps_if (pt_cmpR op_gt (pe_callB call_len_seq (by rfl) T.m_len PySem.boot_len (pa_cons (pv 0) pa_nil)) pe_int (by first | rfl | exact nomark _)) (pss_one (ps_set (i := 3) sc__law_draw.nd rfl (by first | exact Or.inl rfl | exact Or.inr rfl) (pe_ix ix_list (pv 0) (pe_op op_mod (pe_callTy call_int1 (by rfl) T.m_int (by decide +kernel) (pa_cons (pv 1) pa_nil)) (pe_callB call_len_seq (by rfl) T.m_len PySem.boot_len (pa_cons (pv 0) pa_nil))) (fun _ _ => rfl)))) pss_nil)
      (pss_one (ps_ret (pe_op op_mod (pe_op op_mod (pe_callTy call_int1 (by rfl) T.m_int (by decide +kernel) (pa_cons (pe_op op_add (pe_op op_mul (pe_op op_mul (pe_op op_add (pv 3) (pv 1)) (pe_op op_add (pv 1) pe_int)) pe_int) (pe_op op_mul (pv 1) pe_int)) pa_nil)) pe_int) (pv 2))))))), ?_⟩
    walk_at "go"
    simp only [List.length_map]
    refine ite2 (fun c => ?_) (fun c => ?_)
    · have c' : (p : Int) < ts.length := of_decide_eq_true c
      walk_at "go"
      exact q _ (Int.emod_nonneg _ (by omega)) (Int.emod_lt_of_pos _ hm)
    · walk_at "go"
      refine ⟨fun σ H2 => H = H2 ∧ ∃ n : Int, σ = [some (.ref a), some (.int p), some (.int m), some (.int n)], ?_, ?_⟩
      · walk_at "go"
        simp only [List.length_map]
        refine ite2 (fun c => ?_) (fun c => ?_)
        · have c' : (0 : Int) < ts.length := of_decide_eq_true c
          obtain ⟨k, ek, hk⟩ : ∃ k : Nat, (p : Int) % (ts.length : Int) = (k : Int) ∧ k < ts.length := ⟨p % ts.length, by omega, Nat.mod_lt _ (by omega)⟩
          walk_at "go"
          simp only [List.length_map, ek]
          refine ⟨by show (0 : Int) < ts.length; omega, ?_⟩
          walk_at "go"
          exact ⟨_, rfl⟩
        · exact ⟨rfl, _, rfl⟩
      rintro _ _ ⟨rfl, n, rfl⟩
      walk_at "go"
      exact q _ (Int.emod_nonneg _ (by omega)) (Int.emod_lt_of_pos _ hm)
end

theorem ix_or {X : Cx} : IxR X (fun x y H Q => L2.rIxL X.K x y H Q ∨ L2.rIxT X.K x y H Q) := by
  intro value slice pins s σ H x y v u Q I rx ry h hs
  rcases h with h | h
  · exact ix_list value slice pins s σ H x y v u Q I rx ry h hs
  · exact ix_tup value slice pins s σ H x y v u Q I rx ry h hs
theorem eqvAll_ints : ∀ ns ms : List Int, PyData.eqvAll (ns.map PyData.int) (ms.map PyData.int) = decide (ns = ms)
  | [], [] => by simp [PyData.eqvAll]
  | [], _ :: _ => by simp [PyData.eqvAll]
  | _ :: _, [] => by simp [PyData.eqvAll]
  | n :: ns, m :: ms => by
    rw [List.map_cons, List.map_cons, PyData.eqvAll, eqvAll_ints ns ms, PyData.eqv, Bool.eq_iff_iff]
    simp
theorem eqv_ints2 (ns ms : List Int) : PyData.eqv (.list (ns.map PyData.int)) (.list (ms.map PyData.int)) = decide (ns = ms) := by rw [PyData.eqv, eqvAll_ints]
theorem neD_ints {K : PySem.W.Frag} {H : Hp} {a b : Addr} {ns ms : List Int} {Q : VK} (h1 : SqL K H a (ns.map V.int)) (h2 : SqL K H b (ms.map V.int)) (q : Q (.bl (!decide (ns = ms))) H) : rNeD K (.ref a) (.ref b) H Q :=
  ⟨_, _, dp_ints h1, dp_ints h2, shaped_ints _, shaped_ints _, by rw [eqv_ints2]; exact q⟩
theorem eqD_ints {K : PySem.W.Frag} {H : Hp} {a b : Addr} {ns ms : List Int} {Q : VK} (h1 : SqL K H a (ns.map V.int)) (h2 : SqL K H b (ms.map V.int)) (q : Q (.bl (decide (ns = ms))) H) : rEqD K (.ref a) (.ref b) H Q :=
  ⟨_, _, dp_ints h1, dp_ints h2, shaped_ints _, shaped_ints _, by rw [eqv_ints2]; exact q⟩
def Flat (x : V) : Prop := (∃ n, x = .int n) ∨ (∃ b, x = .bl b) ∨ ∃ z, x = .str z ∧ PyData.strOk z = true
/-- two values that are the same data, lists and tuples nested at most d deep -/
def Al (K : PySem.W.Frag) (H : Hp) : Nat → V → V → Prop
  | 0, x, y => x = y ∧ Flat x
  | d + 1, x, y => (x = y ∧ Flat x) ∨ ∃ (a b : Addr) (xs ys : List V), x = .ref a ∧ y = .ref b ∧ ((H a = some (.tup xs) ∧ H b = some (.tup ys)) ∨ (H a = some (.lst xs) ∧ H b = some (.lst ys))) ∧ xs.length = ys.length ∧ xs.length ≤ 10000 ∧ ∀ i, i < xs.length → Al K H d (xs.getD i .non) (ys.getD i .non)
theorem alI {K : PySem.W.Frag} {H : Hp} (d : Nat) (n : Int) : Al K H d (.int n) (.int n) := by
  cases d with
  | zero => exact ⟨rfl, .inl ⟨n, rfl⟩⟩
  | succ d => exact .inl ⟨rfl, .inl ⟨n, rfl⟩⟩
theorem alB {K : PySem.W.Frag} {H : Hp} (d : Nat) (b : Bool) : Al K H d (.bl b) (.bl b) := by
  cases d with
  | zero => exact ⟨rfl, .inr (.inl ⟨b, rfl⟩)⟩
  | succ d => exact .inl ⟨rfl, .inr (.inl ⟨b, rfl⟩)⟩
theorem alS {K : PySem.W.Frag} {H : Hp} (d : Nat) {z : Str} (h : PyData.strOk z = true) : Al K H d (.str z) (.str z) := by
  cases d with
  | zero => exact ⟨rfl, .inr (.inr ⟨z, rfl, h⟩)⟩
  | succ d => exact .inl ⟨rfl, .inr (.inr ⟨z, rfl, h⟩)⟩
theorem alInts {K : PySem.W.Frag} {H : Hp} {a b : Addr} {ns : List Int} (d : Nat) (ha : H a = some (.lst (ns.map V.int))) (hb : H b = some (.lst (ns.map V.int))) (hl : ns.length ≤ 10000) : Al K H (d + 1) (.ref a) (.ref b) :=
  .inr ⟨a, b, _, _, rfl, rfl, .inr ⟨ha, hb⟩, rfl, by rw [List.length_map]; exact hl, fun i hi => by
    rw [List.length_map] at hi
    rw [List.getD_eq_getElem?_getD, List.getElem?_map, List.getElem?_eq_getElem hi]
    exact alI d _⟩
def sp__law_equal (K : PySem.W.Frag) (cs : Cs) (d : Nat) : Sp := fun vs H Q _ => ∃ x y : V, vs = [x, y] ∧ Al K H d x y ∧ Q (.bl true) H
def sp__law_equal_at (K : PySem.W.Frag) (cs : Cs) : Nat → Sp
  | 0 => fun _ _ _ _ => False
  | d + 1 => sp__law_equal K cs d
section
variable {P : Program} {w : World} {K : PySem.W.Frag} {mg : Str → Option Value} {base : Heap} {cs : Cs}
theorem c__law_equal_step (D : Def K mg "_law_equal" s__law_equal ["actual", "due"]) (T : Tp w K mg cs)  (d : Nat) (c__law_equal : Cal P w K mg base CX0 (1 + d) "_law_equal" (sp__law_equal_at K cs d)) : Cal P w K mg base CX0 (1 + d + 1) "_law_equal" (sp__law_equal K cs d) := by
  refine D.ok sc__law_equal (fun vs H Q E h => ?_) (fun f cdv A outer s H vs Q E hr h => ?_)
  · obtain ⟨x, y, rfl, _⟩ := h; rfl
  · obtain ⟨x, y, rfl, hA, q⟩ := h
    refine ⟨_, (pss_cons (ps_if (pt_cmpR op_isN (pv 1) pe_non (by first | rfl | exact nomark _)) (pss_one (ps_ret (pe_cmpR op_isN (pv 0) pe_non (by first | rfl | exact nomark _)))) pss_nil)
      (pss_cons (ps_if (pt_val (pe_callB call_isi (by rfl) T.m_isinstance (by decide +kernel) (pa_cons (pv 1) (pa_cons (pe_bltn (v := .ty "bool") (u := .type "bool") (by rfl) T.m_bool (by decide +kernel) rfl) pa_nil)))) (pss_one (ps_ret (pe_and (pe_callB call_isi (by rfl) T.m_isinstance (by decide +kernel) (pa_cons (pv 0) (pa_cons (pe_bltn (v := .ty "bool") (u := .type "bool") (by rfl) T.m_bool (by decide +kernel) rfl) pa_nil))) (pe_one (pe_cmpR (op_eqD (hu64 hr)) (pv 0) (pv 1) (by first | rfl | exact nomark _)))))) pss_nil)
      (pss_cons (ps_if (pt_val (pe_callB call_isi (by rfl) T.m_isinstance (by decide +kernel) (pa_cons (pv 1) (pa_cons (pe_bltn (v := .ty "int") (u := .type "int") (by rfl) T.m_int (by decide +kernel) rfl) pa_nil)))) (pss_one (ps_ret (pe_and (pe_callB call_isi (by rfl) T.m_isinstance (by decide +kernel) (pa_cons (pv 0) (pa_cons (pe_bltn (v := .ty "int") (u := .type "int") (by rfl) T.m_int (by decide +kernel) rfl) pa_nil))) (pe_and (pe_not (pe_callB call_isi (by rfl) T.m_isinstance (by decide +kernel) (pa_cons (pv 0) (pa_cons (pe_bltn (v := .ty "bool") (u := .type "bool") (by rfl) T.m_bool (by decide +kernel) rfl) pa_nil)))) (pe_one (pe_cmpR (op_eqD (hu64 hr)) (pv 0) (pv 1) (by first | rfl | exact nomark _))))))) pss_nil)
      (pss_cons (ps_if (pt_val (pe_callB call_isi (by rfl) T.m_isinstance (by decide +kernel) (pa_cons (pv 1) (pa_cons (pe_bltn (v := .ty "str") (u := .type "str") (by rfl) T.m_str (by decide +kernel) rfl) pa_nil)))) (pss_one (ps_ret (pe_and (pe_callB call_isi (by rfl) T.m_isinstance (by decide +kernel) (pa_cons (pv 0) (pa_cons (pe_bltn (v := .ty "str") (u := .type "str") (by rfl) T.m_str (by decide +kernel) rfl) pa_nil))) (pe_one (pe_cmpR (op_eqD (hu64 hr)) (pv 0) (pv 1) (by first | rfl | exact nomark _)))))) pss_nil)
      (pss_cons (ps_if (PW.pt (pw_and (pt_val (pe_callB call_isi (by rfl) T.m_isinstance (by decide +kernel) (pa_cons (pv 1) (pa_cons (pe_bltn (v := .ty "tuple") (u := .type "tuple") (by rfl) T.m_tuple (by decide +kernel) rfl) pa_nil)))) (pw_and1 (pt_not (pt_val (pe_callB call_isi (by rfl) T.m_isinstance (by decide +kernel) (pa_cons (pv 0) (pa_cons (pe_bltn (v := .ty "tuple") (u := .type "tuple") (by rfl) T.m_tuple (by decide +kernel) rfl) pa_nil)))))))) (pss_one (ps_ret pe_bl)) pss_nil)
      (pss_cons (ps_if (PW.pt (pw_and (pt_val (pe_callB call_isi (by rfl) T.m_isinstance (by decide +kernel) (pa_cons (pv 1) (pa_cons (pe_bltn (v := .ty "list") (u := .type "list") (by rfl) T.m_list (by decide +kernel) rfl) pa_nil)))) (pw_and1 (pt_not (pt_val (pe_callB call_isi (by rfl) T.m_isinstance (by decide +kernel) (pa_cons (pv 0) (pa_cons (pe_bltn (v := .ty "list") (u := .type "list") (by rfl) T.m_list (by decide +kernel) rfl) pa_nil)))))))) (pss_one (ps_ret pe_bl)) pss_nil)
      (pss_cons (ps_if (pt_cmpR op_ne (pe_callB call_len_seq (by rfl) T.m_len PySem.boot_len (pa_cons (pv 0) pa_nil)) (pe_callB call_len_seq (by rfl) T.m_len PySem.boot_len (pa_cons (pv 1) pa_nil)) (by first | rfl | exact nomark _)) (pss_one (ps_ret pe_bl)) pss_nil)
      (pss_cons (ps_for PassesOwn.never rfl (pi_range1 (by rfl) T.m_range (pa_cons (pe_callB call_len_seq (by rfl) T.m_len PySem.boot_len (pa_cons (pv 1) pa_nil)) pa_nil)) (pg_name (i := 2) sc__law_equal.nd rfl (by first | exact Or.inl rfl | exact Or.inr rfl)) (pss_one (ps_if (pt_not (pt_val (pe_c c__law_equal hr (by omega) (by rfl) (pa_cons (pe_ix ix_or (pv 0) (pv 2) (fun _ _ => rfl)) (pa_cons (pe_ix ix_or (pv 1) (pv 2) (fun _ _ => rfl)) pa_nil))))) (pss_one (ps_ret pe_bl)) pss_nil)))
      (pss_one (ps_ret pe_bl)))))))))), ?_⟩
    have hcase : (x = y ∧ Flat x) ∨ ∃ e, d = e + 1 ∧ ∃ (a b : Addr) (xs ys : List V), x = .ref a ∧ y = .ref b ∧ ((H a = some (.tup xs) ∧ H b = some (.tup ys)) ∨ (H a = some (.lst xs) ∧ H b = some (.lst ys))) ∧ xs.length = ys.length ∧ xs.length ≤ 10000 ∧ ∀ i, i < xs.length → Al K H e (xs.getD i .non) (ys.getD i .non) := by
      cases d with
      | zero => exact .inl hA
      | succ e => exact hA.elim .inl fun h => .inr ⟨e, rfl, h⟩
    rcases hcase with ⟨rfl, ⟨n, rfl⟩ | ⟨b, rfl⟩ | ⟨z, rfl, hok⟩⟩ | ⟨e, rfl, a, b, xs, ys, rfl, rfl, ⟨ka, kb⟩ | ⟨ka, kb⟩, hl, hl2, hk⟩
    · walk_at "go"
      exact eqD_same (.int _) (.int _) (by unfold SeqAt.shaped; simp [PyData.canLay0, PyData.depth]) q
    · walk_at "go"
      refine ⟨_, .ty _, _, _, true, rfl, .ty _, .base (.bl _), kit_ty (by decide +kernel), ?_⟩
      walk_at "go"
      refine ⟨_, .ty _, _, _, true, rfl, .ty _, .base (.bl _), kit_ty (by decide +kernel), ?_⟩
      walk_at "go"
      exact eqD_same (.bl _) (.bl _) (by unfold SeqAt.shaped; simp [PyData.canLay0, PyData.depth]) q
    · walk_at "go"
      refine ⟨_, .ty _, _, _, false, rfl, .ty _, .base (.str _), kit_ty (by decide +kernel), ?_⟩
      walk_at "go"
      exact eqD_same (d := .str z) (.str _) (.str _) (by unfold SeqAt.shaped; simp [PyData.canLay0, PyData.depth, hok]) q
    · walk_at "go"
      refine ⟨_, .ty _, _, _, false, rfl, .ty _, .base (.tup kb), kit_ty (by decide +kernel), ?_⟩
      walk_at "go"
      refine ⟨_, .ty _, _, _, false, rfl, .ty _, .base (.tup kb), kit_ty (by decide +kernel), ?_⟩
      walk_at "go"
      refine ⟨_, .ty _, _, _, false, rfl, .ty _, .base (.tup kb), kit_ty (by decide +kernel), ?_⟩
      walk_at "go"
      refine ⟨_, .ty _, _, _, false, rfl, .ty _, .base (.tup kb), kit_ty (by decide +kernel), ?_⟩
      walk_at "go"
      refine ⟨a, xs, rfl, .inr (SqT.of ka), ?_⟩
      walk_at "go"
      refine ⟨b, ys, rfl, .inr (SqT.of kb), ?_⟩
      walk_at "go"
      refine ifNe (by rw [hl]) ?_
      walk_at "go"
      have hy : ys.length ≤ 10000 := by omega
      refine ⟨b, ys, rfl, (.inr (SqT.of kb)), ?_⟩
      walk_at "go"
      refine for_rangeD (lo := 0) (n := ys.length) (fun i σ H2 => H = H2 ∧ ∃ o, σ = [some (.ref a), some (.ref b), o]) ⟨rfl, _, rfl⟩ ?_ ?_
      · rintro i _ _ hi ⟨rfl, o, rfl⟩
        have ex : atI xs (i : Int) = some (xs.getD i .non) := atI_nat (by rw [List.getElem?_eq_getElem (by omega), List.getD_eq_getElem?_getD, List.getElem?_eq_getElem (by omega)]; rfl)
        have ey : atI ys (i : Int) = some (ys.getD i .non) := atI_nat (by rw [List.getElem?_eq_getElem (by omega), List.getD_eq_getElem?_getD, List.getElem?_eq_getElem (by omega)]; rfl)
        rw [Int.zero_add]
        walk_at "go"
        refine .inr ⟨_, _, _, _, rfl, rfl, SqT.of ka, ex, ?_⟩
        walk_at "go"
        refine .inr ⟨_, _, _, _, rfl, rfl, SqT.of kb, ey, ?_⟩
        refine ⟨_, _, rfl, hk i (by omega), ?_⟩
        walk_at "go"
        exact ⟨_, rfl⟩
      · rintro _ _ ⟨rfl, o, rfl⟩
        walk_at "go"
        exact q
    · walk_at "go"
      refine ⟨_, .ty _, _, _, false, rfl, .ty _, .base (.lst kb), kit_ty (by decide +kernel), ?_⟩
      walk_at "go"
      refine ⟨_, .ty _, _, _, false, rfl, .ty _, .base (.lst kb), kit_ty (by decide +kernel), ?_⟩
      walk_at "go"
      refine ⟨_, .ty _, _, _, false, rfl, .ty _, .base (.lst kb), kit_ty (by decide +kernel), ?_⟩
      walk_at "go"
      refine ⟨_, .ty _, _, _, false, rfl, .ty _, .base (.lst kb), kit_ty (by decide +kernel), ?_⟩
      walk_at "go"
      refine ⟨a, xs, rfl, .inl (SqL.of ka), ?_⟩
      walk_at "go"
      refine ⟨b, ys, rfl, .inl (SqL.of kb), ?_⟩
      walk_at "go"
      refine ifNe (by rw [hl]) ?_
      walk_at "go"
      have hy : ys.length ≤ 10000 := by omega
      refine ⟨b, ys, rfl, (.inl (SqL.of kb)), ?_⟩
      walk_at "go"
      refine for_rangeD (lo := 0) (n := ys.length) (fun i σ H2 => H = H2 ∧ ∃ o, σ = [some (.ref a), some (.ref b), o]) ⟨rfl, _, rfl⟩ ?_ ?_
      · rintro i _ _ hi ⟨rfl, o, rfl⟩
        have ex : atI xs (i : Int) = some (xs.getD i .non) := atI_nat (by rw [List.getElem?_eq_getElem (by omega), List.getD_eq_getElem?_getD, List.getElem?_eq_getElem (by omega)]; rfl)
        have ey : atI ys (i : Int) = some (ys.getD i .non) := atI_nat (by rw [List.getElem?_eq_getElem (by omega), List.getD_eq_getElem?_getD, List.getElem?_eq_getElem (by omega)]; rfl)
        rw [Int.zero_add]
        walk_at "go"
        refine .inl ⟨_, _, _, _, rfl, rfl, SqL.of ka, ex, ?_⟩
        walk_at "go"
        refine .inl ⟨_, _, _, _, rfl, rfl, SqL.of kb, ey, ?_⟩
        refine ⟨_, _, rfl, hk i (by omega), ?_⟩
        walk_at "go"
        exact ⟨_, rfl⟩
      · rintro _ _ ⟨rfl, o, rfl⟩
        walk_at "go"
        exact q
theorem c__law_equal (D : Def K mg "_law_equal" s__law_equal ["actual", "due"]) (T : Tp w K mg cs)  : ∀ d : Nat, Cal P w K mg base CX0 (1 + d + 1) "_law_equal" (sp__law_equal K cs d)
  | 0 => c__law_equal_step D T  0 (D.none sc__law_equal)
  | d + 1 => c__law_equal_step D T  (d + 1) (c__law_equal D T  d)
end

def nr (xs ys : List Int) : Nat → Nat → Nat → List Int → Nat × List Int
  | 0, low, _, acc => (low, acc)
  | f + 1, low, high, acc => if low + 1 < high then
      (if xs.getD ((low + high) / 2) 0 = ys.getD ((low + high) / 2) 0 then nr xs ys f ((low + high) / 2) high (acc ++ [(((low + high) / 2 : Nat) : Int)])
       else nr xs ys f low ((low + high) / 2) (acc ++ [(((low + high) / 2 : Nat) : Int)]))
    else (low, acc)
theorem nr_stop {xs ys : List Int} {f low high : Nat} {acc : List Int} (h : ¬ low + 1 < high) : nr xs ys f low high acc = (low, acc) := by
  cases f with
  | zero => rfl
  | succ f => rw [nr, if_neg h]
theorem nr_eq {xs ys : List Int} {f low high : Nat} {acc : List Int} (h : low + 1 < high) (e : xs.getD ((low + high) / 2) 0 = ys.getD ((low + high) / 2) 0) : nr xs ys (f + 1) low high acc = nr xs ys f ((low + high) / 2) high (acc ++ [(((low + high) / 2 : Nat) : Int)]) := by
  rw [nr, if_pos h, if_pos e]
theorem nr_ne {xs ys : List Int} {f low high : Nat} {acc : List Int} (h : low + 1 < high) (e : ¬ xs.getD ((low + high) / 2) 0 = ys.getD ((low + high) / 2) 0) : nr xs ys (f + 1) low high acc = nr xs ys f low ((low + high) / 2) (acc ++ [(((low + high) / 2 : Nat) : Int)]) := by
  rw [nr, if_pos h, if_neg e]
theorem nr_acc (xs ys : List Int) : ∀ (f low high : Nat) (acc : List Int), ∃ t, (nr xs ys f low high acc).2 = acc ++ t
  | 0, _, _, acc => ⟨[], (List.append_nil acc).symm⟩
  | f + 1, low, high, acc => by
    by_cases h : low + 1 < high
    · by_cases e : xs.getD ((low + high) / 2) 0 = ys.getD ((low + high) / 2) 0
      · rw [nr_eq h e]
        obtain ⟨t, ht⟩ := nr_acc xs ys f ((low + high) / 2) high (acc ++ [(((low + high) / 2 : Nat) : Int)])
        exact ⟨_, by rw [ht, List.append_assoc]⟩
      · rw [nr_ne h e]
        obtain ⟨t, ht⟩ := nr_acc xs ys f low ((low + high) / 2) (acc ++ [(((low + high) / 2 : Nat) : Int)])
        exact ⟨_, by rw [ht, List.append_assoc]⟩
    · rw [nr_stop h]; exact ⟨[], (List.append_nil acc).symm⟩
theorem nr_congr {xs ys us vs : List Int} : ∀ (f low high : Nat) (acc : List Int), (∀ k : Nat, (k : Int) ∈ (nr xs ys f low high acc).2 → (xs.getD k 0 = ys.getD k 0 ↔ us.getD k 0 = vs.getD k 0)) → nr us vs f low high acc = nr xs ys f low high acc
  | 0, _, _, _, _ => rfl
  | f + 1, low, high, acc, g => by
    by_cases h : low + 1 < high
    · by_cases e : xs.getD ((low + high) / 2) 0 = ys.getD ((low + high) / 2) 0
      · rw [nr_eq h e] at g ⊢
        obtain ⟨t, ht⟩ := nr_acc xs ys f ((low + high) / 2) high (acc ++ [(((low + high) / 2 : Nat) : Int)])
        have e' := (g _ (by rw [ht]; simp)).mp e
        rw [nr_eq h e']
        exact nr_congr f _ _ _ g
      · rw [nr_ne h e] at g ⊢
        obtain ⟨t, ht⟩ := nr_acc xs ys f low ((low + high) / 2) (acc ++ [(((low + high) / 2 : Nat) : Int)])
        have e' : ¬ us.getD ((low + high) / 2) 0 = vs.getD ((low + high) / 2) 0 := fun z => e ((g _ (by rw [ht]; simp)).mpr z)
        rw [nr_ne h e']
        exact nr_congr f _ _ _ g
    · rw [nr_stop h, nr_stop h]
theorem nr_ok {xs ys : List Int} : ∀ (f low high : Nat) (acc : List Int), f ≤ 100 → low < high → high - low ≤ 2 ^ f → xs.getD low 0 = ys.getD low 0 → ¬ xs.getD high 0 = ys.getD high 0 → (∃ t, (nr xs ys f low high acc).2 = acc ++ t ∧ t.length ≤ f ∧ (∀ m ∈ t, ∃ k : Nat, m = (k : Int) ∧ k < high) ∧ (high = low + 1 → t = []) ∧ (low + 1 < high → 2 ^ t.length ≤ 2 * (high - low - 1))) ∧
    xs.getD (nr xs ys f low high acc).1 0 = ys.getD (nr xs ys f low high acc).1 0 ∧ (¬ xs.getD ((nr xs ys f low high acc).1 + 1) 0 = ys.getD ((nr xs ys f low high acc).1 + 1) 0) ∧ (nr xs ys f low high acc).1 + 1 ≤ high
  | 0, low, high, acc, _, h1, h2, e1, e2 => by
    have hh : high = low + 1 := by simp at h2; omega
    subst hh
    exact ⟨⟨[], (List.append_nil acc).symm, Nat.le_refl _, (fun _ z => nomatch z), fun _ => rfl, fun z => absurd z (by omega)⟩, e1, e2, Nat.le_refl _⟩
  | f + 1, low, high, acc, hf, h1, h2, e1, e2 => by
    by_cases h : low + 1 < high
    · have hp : 2 ^ (f + 1) = 2 * 2 ^ f := by rw [Nat.pow_succ]; omega
      by_cases e : xs.getD ((low + high) / 2) 0 = ys.getD ((low + high) / 2) 0
      · rw [nr_eq h e]
        obtain ⟨⟨t, ht, hl, hm, hz, hb⟩, r1, r2, r3⟩ := nr_ok f ((low + high) / 2) high (acc ++ [(((low + high) / 2 : Nat) : Int)]) (by omega) (by omega) (by omega) e e2
        refine ⟨⟨(((low + high) / 2 : Nat) : Int) :: t, by rw [ht, List.append_assoc]; rfl, by rw [List.length_cons]; omega, fun m hm' => ?_, fun z => absurd h (by omega), fun _ => ?_⟩, r1, r2, r3⟩
        · rcases List.mem_cons.mp hm' with z | z
          · exact ⟨_, z, by omega⟩
          · exact hm m z
        · rw [List.length_cons, Nat.pow_succ]
          by_cases c : high = (low + high) / 2 + 1
          · rw [hz c]; simp; omega
          · have := hb (by omega); omega
      · rw [nr_ne h e]
        obtain ⟨⟨t, ht, hl, hm, hz, hb⟩, r1, r2, r3⟩ := nr_ok f low ((low + high) / 2) (acc ++ [(((low + high) / 2 : Nat) : Int)]) (by omega) (by omega) (by omega) e1 e
        refine ⟨⟨(((low + high) / 2 : Nat) : Int) :: t, by rw [ht, List.append_assoc]; rfl, by rw [List.length_cons]; omega, fun m hm' => ?_, fun z => absurd h (by omega), fun _ => ?_⟩, r1, r2, by omega⟩
        · rcases List.mem_cons.mp hm' with z | z
          · exact ⟨_, z, by omega⟩
          · obtain ⟨k, hk, hk2⟩ := hm m z
            exact ⟨k, hk, by omega⟩
        · rw [List.length_cons, Nat.pow_succ]
          by_cases c : (low + high) / 2 = low + 1
          · rw [hz c]; simp; omega
          · have := hb (by omega); omega
    · rw [nr_stop h]
      have hh : high = low + 1 := by omega
      subst hh
      exact ⟨⟨[], (List.append_nil acc).symm, Nat.zero_le _, (fun _ z => nomatch z), fun _ => rfl, fun z => absurd z (by omega)⟩, e1, e2, Nat.le_refl _⟩
theorem getD_set_ne {ys : List Int} {i j : Nat} {v : Int} (h : i ≠ j) : (ys.set i v).getD j 0 = ys.getD j 0 := by
  rw [List.getD_eq_getElem?_getD, List.getD_eq_getElem?_getD, List.getElem?_set_ne h]
theorem getD_set_eq {ys : List Int} {i : Nat} {v : Int} (h : i < ys.length) : (ys.set i v).getD i 0 = v := by
  rw [List.getD_eq_getElem?_getD, List.getElem?_set_self h]; rfl
theorem ixN_nat {n k : Nat} (h : k < n) : ixN n (k : Int) = some k := by
  unfold ixN
  rw [if_pos (by omega), if_pos (by omega), Int.toNat_natCast]
theorem alBad3 {K : PySem.W.Frag} {H : Hp} {t u : Addr} (ht : H t = some (.tup [.str "bad", .bl true, .bl true])) (hu : H u = some (.tup [.str "bad", .bl true, .bl true])) : Al K H 3 (.ref t) (.ref u) :=
  .inr ⟨t, u, _, _, rfl, rfl, .inl ⟨ht, hu⟩, rfl, by show 3 ≤ 10000; decide, fun i hi => by
    match i, hi with
    | 0, _ => exact alS 2 (by decide +kernel)
    | 1, _ => exact alB 2 true
    | 2, _ => exact alB 2 true⟩
theorem rep_flat (c : Int) : ∀ n : Nat, (List.replicate n [V.int c]).flatten = (List.replicate n c).map V.int
  | 0 => rfl
  | n + 1 => by rw [List.replicate_succ, List.replicate_succ, List.flatten_cons, rep_flat c n]; rfl
theorem ixN_last {n : Nat} (h : 0 < n) : ixN n (-1) = some (n - 1) := by
  unfold ixN
  rw [if_neg (by omega), if_pos (by omega), show (-1 + (n : Int)).toNat = n - 1 by omega]
theorem at_first {ns : List Int} (h : 0 < ns.length) : atI (ns.map V.int) 0 = some (.int (ns.getD 0 0)) := at_ints (k := 0) h
theorem at_end {ns : List Int} (h : 0 < ns.length) : atI (ns.map V.int) (-1) = some (.int (ns.getD (ns.length - 1) 0)) := by
  unfold atI ixN
  rw [List.length_map, if_neg (by omega), if_pos (by omega)]
  show (ns.map V.int)[(-1 + ((ns.length : Nat) : Int)).toNat]? = _
  rw [show (-1 + ((ns.length : Nat) : Int)).toNat = ns.length - 1 by omega, List.getElem?_map, List.getElem?_eq_getElem (by omega), List.getD_eq_getElem?_getD, List.getElem?_eq_getElem (by omega)]; rfl
theorem depth_ints1 : ∀ ns : List Int, PyData.depthAll (ns.map PyData.int) ≤ 1
  | [] => by simp [PyData.depthAll]
  | _ :: r => by
    have h := depth_ints1 r
    simp [PyData.depthAll, PyData.depth] at h ⊢
    exact h
theorem shaped_two_ints (ns ms : List Int) : SeqAt.shaped (.list [.list (ns.map PyData.int), .list (ms.map PyData.int)]) = true := by
  unfold SeqAt.shaped
  rw [Bool.and_eq_true]
  refine ⟨?_, decide_eq_true ?_⟩
  · simp only [PyData.canLay0, PyData.canLayAll0, canlay_ints, Bool.and_self]
  · have h := depth_ints1 ns
    have h2 := depth_ints1 ms
    simp only [PyData.depth, PyData.depthAll] at h h2 ⊢
    omega
theorem eq_pair {K : PySem.W.Frag} {H : Hp} {A B a b c d : Addr} {xs ys : List Int} {Q : VK} (hA : H A = some (.lst [.ref a, .ref b])) (hB : H B = some (.lst [.ref c, .ref d])) (ha : SqL K H a (xs.map V.int)) (hb : SqL K H b (ys.map V.int)) (hc : SqL K H c (xs.map V.int)) (hd : SqL K H d (ys.map V.int)) (q : Q (.bl true) H) : rEqD K (.ref A) (.ref B) H Q :=
  eqD_same (d := .list [.list (xs.map PyData.int), .list (ys.map PyData.int)]) (.lst (SqL.of hA) (.cons (dp_ints ha) (.cons (dp_ints hb) .nil))) (.lst (SqL.of hB) (.cons (dp_ints hc) (.cons (dp_ints hd) .nil))) (shaped_two_ints _ _) q
theorem alTold {K : PySem.W.Frag} {H : Hp} {u v t d l m : Addr} {r : Nat × List Int} (hu : H u = some (.tup [.ref t, .bl true])) (hv : H v = some (.tup [.ref d, .bl true])) (ht : H t = some (.tup [.int (r.1 : Int), .ref l])) (hd : H d = some (.tup [.int (r.1 : Int), .ref m])) (hl : H l = some (.lst (r.2.map V.int))) (hm : H m = some (.lst (r.2.map V.int))) (h : r.2.length ≤ 10000) : Al K H 3 (.ref u) (.ref v) :=
  .inr ⟨u, v, _, _, rfl, rfl, .inl ⟨hu, hv⟩, rfl, by show 2 ≤ 10000; decide, fun i hi => by
    match i, hi with
    | 0, _ => exact .inr ⟨t, d, _, _, rfl, rfl, .inl ⟨ht, hd⟩, rfl, by show 2 ≤ 10000; decide, fun i hi => by
        match i, hi with
        | 0, _ => exact alI 1 _
        | 1, _ => exact alInts 0 hl hm h⟩
    | 1, _ => exact alB 2 true⟩
/-- claims that narrow takes -/
def Good (xs ys : List Int) : Prop := xs.length = ys.length ∧ 2 ≤ xs.length ∧ xs.length ≤ 2001 ∧ xs.getD 0 0 = ys.getD 0 0 ∧ ¬ xs.getD (xs.length - 1) 0 = ys.getD (xs.length - 1) 0
def nar (xs ys : List Int) : Nat × List Int := nr xs ys 12 0 (xs.length - 1) []
theorem nar_len (xs ys : List Int) (g2 : 2 ≤ xs.length) (g3 : xs.length ≤ 2001) (g4 : xs.getD 0 0 = ys.getD 0 0) (g5 : ¬ xs.getD (xs.length - 1) 0 = ys.getD (xs.length - 1) 0) : (nar xs ys).2.length ≤ 12 := by
  obtain ⟨⟨t, ht, hl, _⟩, _⟩ := nr_ok (xs := xs) (ys := ys) 12 0 (xs.length - 1) [] (by decide) (by omega) (by omega) g4 g5
  unfold nar
  rw [ht, List.nil_append]; exact hl
def Told (H : Hp) (Q : VK) (r : Nat × List Int) : Prop := ∀ t l H', Same H H' → H' l = some (.lst (r.2.map V.int)) → H' t = some (.tup [.int (r.1 : Int), .ref l]) → Q (.ref t) H'
/-- a list of n ints that agrees with xs at the places ks -/
def Cov (n : Nat) (xs us ks : List Int) : Prop := us.length = n ∧ ∀ m : Nat, (m : Int) ∈ ks → us.getD m 0 = xs.getD m 0
theorem Cov.left {n : Nat} {xs us A B : List Int} (h : Cov n xs us (A ++ B)) : Cov n xs us A := ⟨h.1, fun m hm => h.2 m (List.mem_append.mpr (.inl hm))⟩
theorem Cov.set {n k : Nat} {xs us ks : List Int} (h : Cov n xs us ks) (hk : k < n) : Cov n xs (us.set k (xs.getD k 0)) (ks ++ [(k : Int)]) := by
  refine ⟨by rw [List.length_set]; exact h.1, fun m hm => ?_⟩
  by_cases e : k = m
  · rw [← e, getD_set_eq (by rw [h.1]; exact hk)]
  · rw [getD_set_ne e]
    rcases List.mem_append.mp hm with hm | hm
    · exact h.2 m hm
    · have := List.mem_singleton.mp hm; omega
def sp_narrow (K : PySem.W.Frag) (cs : Cs) : Sp := fun vs H Q E => ∃ (a b : Addr) (xs ys : List Int), vs = [.ref a, .ref b] ∧ SqL K H a (xs.map V.int) ∧ SqL K H b (ys.map V.int) ∧ xs.length ≤ 3000 ∧ ys.length ≤ 3000 ∧
  (¬ Good xs ys → E (.ref cs.C_BadClaim) none H) ∧ (Good xs ys → Told H Q (nar xs ys))
def sp__law_due (K : PySem.W.Frag) (cs : Cs) : Sp := fun vs H Q E => ∃ (a b : Addr) (xs ys : List Int), vs = [.ref a, .ref b] ∧ SqL K H a (xs.map V.int) ∧ SqL K H b (ys.map V.int) ∧ xs.length ≤ 3000 ∧ xs.length = ys.length ∧ 2 ≤ xs.length ∧ Told H Q (nar xs ys)
def sp__law_narrow (K : PySem.W.Frag) (cs : Cs) : Sp := fun vs H Q E => ∃ (a b : Addr) (xs ys : List Int), vs = [.ref a, .ref b] ∧ SqL K H a (xs.map V.int) ∧ SqL K H b (ys.map V.int) ∧ xs.length ≤ 3000 ∧ ys.length ≤ 3000 ∧
  (¬ Good xs ys → ∀ t H', Same H H' → H' t = some (.tup [.str "bad", .bl true, .bl true]) → Q (.ref t) H') ∧
  (Good xs ys → ∀ u t l H', Same H H' → H' l = some (.lst ((nar xs ys).2.map V.int)) → H' t = some (.tup [.int ((nar xs ys).1 : Int), .ref l]) → H' u = some (.tup [.ref t, .bl true]) → Q (.ref u) H')
def sp__law_claims (K : PySem.W.Frag) (cs : Cs) : Sp := fun vs H Q E => ∃ (a : Addr) (ts : List Int) (n : Nat), vs = [.ref a, .int (n : Int)] ∧ SqL K H a (ts.map V.int) ∧ 2 ≤ n ∧ n ≤ 2001 ∧
  ∀ xs ys : List Int, xs.length = n → Good xs ys → ∀ p x y H', Same H H' → H' x = some (.lst (xs.map V.int)) → H' y = some (.lst (ys.map V.int)) → H' p = some (.lst [.ref x, .ref y]) → Q (.ref p) H'
def sp__law_spoilt (K : PySem.W.Frag) (cs : Cs) : Sp := fun vs H Q E => ∃ (a p x y : Addr) (ts xs ys : List Int), vs = [.ref a, .ref p] ∧ SqL K H a (ts.map V.int) ∧ H p = some (.lst [.ref x, .ref y]) ∧ H x = some (.lst (xs.map V.int)) ∧ H y = some (.lst (ys.map V.int)) ∧ Good xs ys ∧ ∀ H', Same H H' → Q (.bl true) H'
def sp_lawK (K : PySem.W.Frag) : Sp := fun vs H Q _ => ∃ (a : Addr) (ns : List Int), vs = [.ref a] ∧ SqL K H a (ns.map V.int) ∧ ns.length ≤ 63 ∧ ∀ H', Q (.bl true) H'
abbrev sp_law (K : PySem.W.Frag) (_ : Cs) : Sp := sp_lawK K
section
variable {P : Program} {w : World} {K : PySem.W.Frag} {mg : Str → Option Value} {base : Heap} {cs : Cs}
theorem c_narrow (D : Def K mg "narrow" s_narrow ["first", "second"]) (T : Tp w K mg cs)  : Cal P w K mg base (L2.CX P w) 1 "narrow" (sp_narrow K cs) := by
  refine D.okX sc_narrow (fun vs H Q E h => ?_) (fun f cdv A outer s H vs Q E hr h => ?_)
  · obtain ⟨a, b, xs, ys, rfl, _⟩ := h; rfl
  · obtain ⟨a, b, xs, ys, rfl, hX, hY, hxl, hyl, qB, qG⟩ := h
    refine ⟨_, (pss_cons (ps_set (i := 2) sc_narrow.nd rfl (by first | exact Or.inl rfl | exact Or.inr rfl) (pe_callB call_len_seq (by rfl) T.m_len PySem.boot_len (pa_cons (pv 0) pa_nil)))
      (pss_cons (ps_if (PW.pt (pw_or (pt_cmpR op_ne (pv 2) (pe_callB call_len_seq (by rfl) T.m_len PySem.boot_len (pa_cons (pv 1) pa_nil)) (by first | rfl | exact nomark _)) (pw_or1 (pt_not (pt_chain op_le op_le pe_int (pv 2) (pe_op op_add (pe_gint (by rfl) T.i_MOST_STEPS) pe_int)))))) (pss_one (ps_raise rfl (takes_of rfl rfl rfl rfl) (pmk_own0 PySem.F.excBase_ValueError T.x0_BadClaim T.g_BadClaim T.k0_BadClaim (raises_own T.b0_BadClaim T.t0_BadClaim) (by exact rfl)))) pss_nil)
      (pss_cons (ps_if (PW.pt (pw_or (pt_cmpR op_ne (pe_ix ix_list (pv 0) pe_int (fun _ _ => rfl)) (pe_ix ix_list (pv 1) pe_int (fun _ _ => rfl)) (by first | rfl | exact nomark _)) (pw_or1 (pt_cmpR op_eq (pe_ix ix_list (pv 0) (pe_un un_neg pe_int) (fun _ _ => rfl)) (pe_ix ix_list (pv 1) (pe_un un_neg pe_int) (fun _ _ => rfl)) (by first | rfl | exact nomark _))))) (pss_one (ps_raise rfl (takes_of rfl rfl rfl rfl) (pmk_own0 PySem.F.excBase_ValueError T.x0_BadClaim T.g_BadClaim T.k0_BadClaim (raises_own T.b0_BadClaim T.t0_BadClaim) (by exact rfl)))) pss_nil)
      (pss_cons (ps_set (i := 3) sc_narrow.nd rfl (by first | exact Or.inl rfl | exact Or.inr rfl) pe_int)
      (pss_cons (ps_set (i := 4) sc_narrow.nd rfl (by first | exact Or.inl rfl | exact Or.inr rfl) (pe_op op_sub (pv 2) pe_int))
      (pss_cons (ps_set (i := 5) sc_narrow.nd rfl (by first | exact Or.inl rfl | exact Or.inr rfl) (pe_lst pa_nil))
      (pss_cons (ps_while (passes_of rfl) (pt_cmpR op_gt (pv 4) (pe_op op_add (pv 3) pe_int) (by first | rfl | exact nomark _)) (pss_cons (ps_set (i := 6) sc_narrow.nd rfl (by first | exact Or.inl rfl | exact Or.inr rfl) (pe_op op_fdiv (pe_op op_add (pv 3) (pv 4)) pe_int))
      (pss_cons (ps_expr (pe_bm PySem.F.plainAttrs_list PySem.F.slot_list_append PySem.F.type_list_append mt_append (pv 5) (pa_cons (pv 6) pa_nil)))
      (pss_one (ps_if (pt_cmpR op_eq (pe_ix ix_list (pv 0) (pv 6) (fun _ _ => rfl)) (pe_ix ix_list (pv 1) (pv 6) (fun _ _ => rfl)) (by first | rfl | exact nomark _)) (pss_one (ps_set (i := 3) sc_narrow.nd rfl (by first | exact Or.inl rfl | exact Or.inr rfl) (pv 6))) (pss_one (ps_set (i := 4) sc_narrow.nd rfl (by first | exact Or.inl rfl | exact Or.inr rfl) (pv 6))))))))
      (pss_one (ps_ret (pe_tup (pa_cons (pv 3) (pa_cons (pv 5) pa_nil)))))))))))), ?_⟩
    walk_at "go"
    simp only [List.length_map]
    by_cases e1 : xs.length = ys.length
    case neg =>
      refine ifNeN (fun z => e1 (Int.ofNat.inj z)) ?_
      walk_at "go"
      exact qB fun g => e1 g.1
    refine ifNe (congrArg Int.ofNat e1) ?_
    walk_at "go"
    by_cases e2 : 2 ≤ xs.length
    case neg =>
      rw [if_neg (fun z => e2 (by have := of_decide_eq_true z; omega))]
      walk_at "go"
      exact qB fun g => e2 g.2.1
    rw [if_pos (decide_eq_true (by omega))]
    walk_at "go"
    by_cases e3 : xs.length ≤ 2001
    case neg =>
      rw [show decide ((xs.length : Int) ≤ 2000 + 1) = false from decide_eq_false (by omega)]
      walk_at "go"
      exact qB fun g => e3 g.2.2.1
    rw [show decide ((xs.length : Int) ≤ 2000 + 1) = true from decide_eq_true (by omega)]
    walk_at "go"
    refine ⟨_, _, _, _, rfl, rfl, hX, at_first (by omega), ?_⟩
    walk_at "go"
    refine ⟨_, _, _, _, rfl, rfl, hY, at_first (by omega), ?_⟩
    walk_at "go"
    by_cases e4 : xs.getD 0 0 = ys.getD 0 0
    case neg =>
      refine ifNeN e4 ?_
      walk_at "go"
      exact qB fun g => e4 g.2.2.2.1
    refine ifNe e4 ?_
    walk_at "go"
    refine ⟨_, _, _, _, rfl, rfl, hX, at_end (by omega), ?_⟩
    walk_at "go"
    refine ⟨_, _, _, _, rfl, rfl, hY, at_end (by omega), ?_⟩
    walk_at "go"
    by_cases e5 : xs.getD (xs.length - 1) 0 = ys.getD (ys.length - 1) 0
    case pos =>
      refine ifEq e5 ?_
      walk_at "go"
      exact qB fun g => g.2.2.2.2 (by rw [e5, e1])
    refine ifEqN e5 ?_
    have hG : Good xs ys := ⟨e1, e2, e3, e4, by rw [e1] at e5 ⊢; exact e5⟩
    walk_at "go"
    intro p hp
    generalize x1 : upd H p _ = H1
    obtain ⟨s1, k1⟩ : Same H H1 ∧ H1 p = some (.lst (([] : List Int).map V.int)) := by subst x1; exact ⟨Same.new hp, upd_same⟩
    have eh : (xs.length : Int) - 1 = ((xs.length - 1 : Nat) : Int) := by omega
    walk_at "go"
    refine while_ev (fun σ H2 => ∃ (low high f : Nat) (acc : List Int) (o6 : Option V), σ = [some (.ref a), some (.ref b), some (.int (xs.length : Int)), some (.int (low : Int)), some (.int (high : Int)), some (.ref p), o6] ∧ low < high ∧ high < xs.length ∧ high - low ≤ 2 ^ f ∧ acc.length + f ≤ 12 ∧ nr xs ys f low high acc = nar xs ys ∧ Same H H2 ∧ H2 p = some (.lst (acc.map V.int)))
      (fun σ _ => match σ with | [_, _, _, some (.int l), some (.int h), _, _] => (h - l).toNat | _ => 0) ⟨0, xs.length - 1, 12, [], _, (by rw [← eh]; rfl), by omega, by omega, by omega, by decide, rfl, s1, k1⟩ ?_
    rintro _ H2 ⟨low, high, f, acc, o6, rfl, h1, h2, h3, h4, h5, s2, k2⟩
    refine ⟨decide (low + 1 < high), fun Q' q' => ?_, fun c => ?_, fun c => ?_⟩
    · walk_at "go"
      rw [show decide ((low : Int) + 1 < (high : Int)) = decide (low + 1 < high) from decide_eq_decide.mpr (by omega)]
      exact q'
    · have c' : low + 1 < high := of_decide_eq_true c
      cases f with
      | zero => simp at h3; omega
      | succ f =>
        have hp2 : 2 ^ (f + 1) = 2 * 2 ^ f := by rw [Nat.pow_succ]; omega
        have em : ((low : Int) + (high : Int)) / 2 = (((low + high) / 2 : Nat) : Int) := by omega
        have hm : (low + high) / 2 < xs.length := by omega
        obtain ⟨m, hmm⟩ : ∃ m, m = (low + high) / 2 := ⟨_, rfl⟩
        rw [← hmm] at em hm
        walk_at "go"
        refine ⟨.inl ⟨rfl, _, SqL.of k2⟩, ?_⟩
        walk_at "go"
        refine ⟨_, _, _, rfl, rfl, k2, (by rw [List.length_map]; exact small64' (by omega)), ?_⟩
        generalize x3 : upd H2 p _ = H3
        have k3 : H3 p = some (.lst ((acc ++ [(m : Int)]).map V.int)) := by
          subst x3
          rw [upd_same, List.map_append]
          show some (HO.lst (acc.map V.int ++ [V.int (((low : Int) + (high : Int)) / 2)])) = _
          rw [em]; rfl
        have s3 : Same H H3 := fun c o e => by subst x3; rw [upd_ne (ne_of_none e hp)]; exact s2 _ _ e
        clear x3
        walk_at "go"
        refine ⟨_, _, _, _, rfl, rfl, s3.seq hX, (by rw [em]; exact at_ints hm), ?_⟩
        walk_at "go"
        refine ⟨_, _, _, _, rfl, rfl, s3.seq hY, (by rw [em]; exact at_ints (by omega)), ?_⟩
        walk_at "go"
        by_cases e : xs.getD m 0 = ys.getD m 0
        · refine ifEq e ?_
          rw [hmm] at e
          rw [nr_eq c' e, ← hmm] at h5
          walk_at "go"
          refine ⟨⟨m, high, f, acc ++ [(m : Int)], some (.int (m : Int)), (by rw [← em]; rfl), by omega, h2, by omega, (by rw [List.length_append, List.length_singleton]; omega), h5, s3, k3⟩, ?_⟩
          show ((high : Int) - (((low : Int) + (high : Int)) / 2)).toNat < ((high : Int) - (low : Int)).toNat
          omega
        · refine ifEqN e ?_
          rw [hmm] at e
          rw [nr_ne c' e, ← hmm] at h5
          walk_at "go"
          refine ⟨⟨low, m, f, acc ++ [(m : Int)], some (.int (m : Int)), (by rw [← em]; rfl), by omega, by omega, by omega, (by rw [List.length_append, List.length_singleton]; omega), h5, s3, k3⟩, ?_⟩
          show ((((low : Int) + (high : Int)) / 2) - (low : Int)).toNat < ((high : Int) - (low : Int)).toNat
          omega
    · have c' : ¬ low + 1 < high := of_decide_eq_false c
      rw [nr_stop c'] at h5
      walk_at "go"
      intro t ht
      refine qG hG t p _ (s2.trans (Same.new ht)) ?_ ?_
      · rw [← h5, upd_ne (ne_of_none k2 ht)]; exact k2
      · rw [← h5, upd_same]
theorem c__law_due (D : Def K mg "_law_due" s__law_due ["first", "second"]) (T : Tp w K mg cs)  : Cal P w K mg base CX0 1 "_law_due" (sp__law_due K cs) := by
  refine D.ok sc__law_due (fun vs H Q E h => ?_) (fun f cdv A outer s H vs Q E hr h => ?_)
  · obtain ⟨a, b, xs, ys, rfl, _⟩ := h; rfl
  · obtain ⟨a, b, xs, ys, rfl, hX, hY, hxl, hyl, hG2, q⟩ := h
    refine ⟨_, (pss_cons (ps_set (i := 2) sc__law_due.nd rfl (by first | exact Or.inl rfl | exact Or.inr rfl) pe_int)
      (pss_cons (ps_set (i := 3) sc__law_due.nd rfl (by first | exact Or.inl rfl | exact Or.inr rfl) (pe_op op_sub (pe_callB call_len_seq (by rfl) T.m_len PySem.boot_len (pa_cons (pv 0) pa_nil)) pe_int))
      (pss_cons (ps_set (i := 4) sc__law_due.nd rfl (by first | exact Or.inl rfl | exact Or.inr rfl) (pe_lst pa_nil))
      (pss_cons (ps_for PassesOwn.never rfl (pi_range1 (by rfl) T.m_range (pa_cons pe_int pa_nil)) (pg_name (i := 5) sc__law_due.nd rfl (by first | exact Or.inl rfl | exact Or.inr rfl)) (pss_one (ps_if (pt_cmpR op_gt (pv 3) (pe_op op_add (pv 2) pe_int) (by first | rfl | exact nomark _)) (pss_cons (ps_set (i := 6) sc__law_due.nd rfl (by first | exact Or.inl rfl | exact Or.inr rfl) (pe_op op_fdiv (pe_op op_add (pv 2) (pv 3)) pe_int))
      (pss_cons (ps_expr (pe_bm PySem.F.plainAttrs_list PySem.F.slot_list_append PySem.F.type_list_append mt_append (pv 4) (pa_cons (pv 6) pa_nil)))
      (pss_one (ps_if (pt_cmpR op_eq (pe_ix ix_list (pv 0) (pv 6) (fun _ _ => rfl)) (pe_ix ix_list (pv 1) (pv 6) (fun _ _ => rfl)) (by first | rfl | exact nomark _)) (pss_one (ps_set (i := 2) sc__law_due.nd rfl (by first | exact Or.inl rfl | exact Or.inr rfl) (pv 6))) (pss_one (ps_set (i := 3) sc__law_due.nd rfl (by first | exact Or.inl rfl | exact Or.inr rfl) (pv 6))))))) pss_nil)))
      (pss_one (ps_ret (pe_tup (pa_cons (pv 2) (pa_cons (pv 4) pa_nil))))))))), ?_⟩
    walk_at "go"
    intro p hp
    generalize x1 : upd H p _ = H1
    obtain ⟨s1, k1⟩ : Same H H1 ∧ H1 p = some (.lst (([] : List Int).map V.int)) := by subst x1; exact ⟨Same.new hp, upd_same⟩
    clear x1
    have eh : (xs.length : Int) - 1 = ((xs.length - 1 : Nat) : Int) := by omega
    walk_at "go"
    refine for_rangeD (lo := 0) (n := 12) (fun i σ H2 => ∃ (low high : Nat) (acc : List Int) (o5 o6 : Option V), σ = [some (.ref a), some (.ref b), some (.int (low : Int)), some (.int (high : Int)), some (.ref p), o5, o6] ∧ low < high ∧ high < xs.length ∧ acc.length ≤ i ∧ nr xs ys (12 - i) low high acc = nar xs ys ∧ Same H H2 ∧ H2 p = some (.lst (acc.map V.int)))
      ⟨0, xs.length - 1, [], _, _, (by rw [← eh, List.length_map]; rfl), by omega, by omega, by decide, rfl, s1, k1⟩ ?_ ?_
    · rintro i _ H2 hi ⟨low, high, acc, o5, o6, rfl, h1, h2, h4, h5, s2, k2⟩
      have ef : 12 - i = (12 - (i + 1)) + 1 := by omega
      rw [ef] at h5
      have em : ((low : Int) + (high : Int)) / 2 = (((low + high) / 2 : Nat) : Int) := by omega
      have hm : (low + high) / 2 < xs.length := by omega
      obtain ⟨m, hmm⟩ : ∃ m, m = (low + high) / 2 := ⟨_, rfl⟩
      rw [← hmm] at em hm
      walk_at "go"
      by_cases c' : low + 1 < high
      case neg =>
        rw [show decide ((low : Int) + 1 < (high : Int)) = false from decide_eq_false (by omega)]
        rw [nr_stop c', ← nr_stop (xs := xs) (ys := ys) (f := 12 - (i + 1)) c'] at h5
        walk_at "go"
        exact ⟨low, high, acc, _, _, rfl, h1, h2, by omega, h5, s2, k2⟩
      rw [show decide ((low : Int) + 1 < (high : Int)) = true from decide_eq_true (by omega)]
      walk_at "go"
      refine ⟨.inl ⟨rfl, _, SqL.of k2⟩, ?_⟩
      walk_at "go"
      refine ⟨_, _, _, rfl, rfl, k2, (by rw [List.length_map]; exact small64' (by omega)), ?_⟩
      generalize x3 : upd H2 p _ = H3
      have k3 : H3 p = some (.lst ((acc ++ [(m : Int)]).map V.int)) := by
        subst x3
        rw [upd_same, List.map_append]
        show some (HO.lst (acc.map V.int ++ [V.int (((low : Int) + (high : Int)) / 2)])) = _
        rw [em]; rfl
      have s3 : Same H H3 := fun c o e => by subst x3; rw [upd_ne (ne_of_none e hp)]; exact s2 _ _ e
      clear x3
      walk_at "go"
      refine ⟨_, _, _, _, rfl, rfl, s3.seq hX, (by rw [em]; exact at_ints hm), ?_⟩
      walk_at "go"
      refine ⟨_, _, _, _, rfl, rfl, s3.seq hY, (by rw [em]; exact at_ints (by omega)), ?_⟩
      walk_at "go"
      by_cases e : xs.getD m 0 = ys.getD m 0
      · refine ifEq e ?_
        rw [hmm] at e
        rw [nr_eq c' e, ← hmm] at h5
        walk_at "go"
        exact ⟨m, high, acc ++ [(m : Int)], _, some (.int (m : Int)), (by rw [← em]; rfl), by omega, h2, (by rw [List.length_append, List.length_singleton]; omega), h5, s3, k3⟩
      · refine ifEqN e ?_
        rw [hmm] at e
        rw [nr_ne c' e, ← hmm] at h5
        walk_at "go"
        exact ⟨low, m, acc ++ [(m : Int)], _, some (.int (m : Int)), (by rw [← em]; rfl), by omega, by omega, (by rw [List.length_append, List.length_singleton]; omega), h5, s3, k3⟩
    · rintro _ H2 ⟨low, high, acc, o5, o6, rfl, h1, h2, h4, h5, s2, k2⟩
      have h6 : (low, acc) = nar xs ys := h5
      walk_at "go"
      intro t ht
      refine q t p _ (s2.trans (Same.new ht)) ?_ ?_
      · rw [← h6, upd_ne (ne_of_none k2 ht)]; exact k2
      · rw [← h6, upd_same]
theorem c__law_claims (D : Def K mg "_law_claims" s__law_claims ["tape", "count"]) (T : Tp w K mg cs) (c__law_draw : Cal P w K mg base CX0 1 "_law_draw" (sp__law_draw K cs)) : Cal P w K mg base CX0 2 "_law_claims" (sp__law_claims K cs) := by
  refine D.ok sc__law_claims (fun vs H Q E h => ?_) (fun f cdv A outer s H vs Q E hr h => ?_)
  · obtain ⟨a, ts, n, rfl, _⟩ := h; rfl
  · obtain ⟨a, ts, n, rfl, hS, n2, n3, q⟩ := h
    refine ⟨_, (pss_cons (ps_setLc (i := 2) (own := [("k", 5)]) (g := gName 5) (tt := tYes) (by rfl) sc__law_claims.nd rfl rfl (sw_true rfl rfl rfl (by decide +kernel)) (pi_range1 (by rfl) T.m_range (pa_cons (pv 1) pa_nil)) (blkOk_by (own := [("k", 5)]) (N := ["tape", "count", "first", "second", "spread", "k", "stretch"]) (sc := defScope s__law_claims) (by decide +kernel)) (fun _ _ _ _ _ => (pg_name (i := 5) sc__law_claims.nd rfl (by first | exact Or.inl rfl | exact Or.inr rfl))) (fun _ _ _ _ _ => pts_nil) (fun _ _ _ _ _ => (pe_op op_mul (pe_op op_mod (pe_callTy call_int1 (by rfl) T.m_int (by decide +kernel) (pa_cons (pe_op op_add (pe_op op_mul (pe_op op_mul (pv 5) (pv 5)) pe_int) (pe_c c__law_draw hr (by decide) (by rfl) (pa_cons (pv 0) (pa_cons pe_int (pa_cons pe_int pa_nil))))) pa_nil)) pe_int) (pe_ix ix_listB (pe_lst (pa_cons pe_int (pa_cons (pe_un un_neg pe_int) (pa_cons (pe_op op_pow pe_int pe_int) pa_nil)))) (pe_c c__law_draw hr (by decide) (by rfl) (pa_cons (pv 0) (pa_cons pe_int (pa_cons pe_int pa_nil)))) (fun _ _ => rfl)))))
      (pss_cons (ps_set (i := 3) sc__law_claims.nd rfl (by first | exact Or.inl rfl | exact Or.inr rfl) (pe_callTy call_list_of (by rfl) T.m_list (by decide +kernel) (pa_cons (pv 2) pa_nil)))
      (pss_cons (ps_set (i := 4) sc__law_claims.nd rfl (by first | exact Or.inl rfl | exact Or.inr rfl) (pe_op op_add pe_int (pe_c c__law_draw hr (by decide) (by rfl) (pa_cons (pv 0) (pa_cons pe_int (pa_cons pe_int pa_nil))))))
      (pss_cons (ps_for PassesOwn.never rfl (pi_range2 (by rfl) T.m_range (pa_cons pe_int (pa_cons (pv 1) pa_nil))) (pg_name (i := 5) sc__law_claims.nd rfl (by first | exact Or.inl rfl | exact Or.inr rfl)) (pss_cons (ps_set (i := 6) sc__law_claims.nd rfl (by first | exact Or.inl rfl | exact Or.inr rfl) (pe_c c__law_draw hr (by decide) (by rfl) (pa_cons (pv 0) (pa_cons (pe_op op_add pe_int (pe_op op_fdiv (pv 5) (pv 4))) (pa_cons pe_int pa_nil)))))
      (pss_one (ps_if (PW.pt (pw_or (pt_cmpR op_eq (pv 6) pe_int (by first | rfl | exact nomark _)) (pw_or1 (PW.pt (pw_and (pt_cmpR op_eq (pv 6) pe_int (by first | rfl | exact nomark _)) (pw_and1 (pt_cmpR op_eq (pe_c c__law_draw hr (by decide) (by rfl) (pa_cons (pv 0) (pa_cons (pe_op op_add pe_int (pv 5)) (pa_cons pe_int pa_nil)))) pe_int (by first | rfl | exact nomark _)))))))) (pss_one (ps_asg (pe_op op_add (pe_op op_add (pe_ix ix_list (pv 3) (pv 5) (fun _ _ => rfl)) pe_int) (pe_c c__law_draw hr (by decide) (by rfl) (pa_cons (pv 0) (pa_cons pe_int (pa_cons pe_int pa_nil))))) (pg_sub (pv 3) (pv 5) set_list))) pss_nil))))
      (pss_cons (ps_asg (pe_op op_sub (pe_op op_sub (pe_ix ix_list (pv 2) (pe_op op_sub (pv 1) pe_int) (fun _ _ => rfl)) pe_int) (pe_c c__law_draw hr (by decide) (by rfl) (pa_cons (pv 0) (pa_cons pe_int (pa_cons pe_int pa_nil))))) (pg_sub (pv 3) (pe_op op_sub (pv 1) pe_int) set_list))
      (pss_one (ps_ret (pe_lst (pa_cons (pv 2) (pa_cons (pv 3) pa_nil)))))))))), ?_⟩
    walk_at "go"
    intro D1 hD1
    refine lc_anyR (n := n) (j := 5) (fun v => ∃ z : Int, v = .int z ∧ True) hD1 (by omega) (fun i H2 Q2 hi s2 q2 => ?_) (fun zs H2 hl hx s2 k2 => ?_)
    · walk_at "go"
      refine ⟨a, ts, 3, 1000, rfl, s2.seq hS, ⟨by decide, by decide⟩, by decide, fun d d0 d1 => ?_⟩
      walk_at "go"
      intro p1 h1
      generalize x1 : upd H2 p1 _ = H3
      obtain ⟨s3, k3⟩ : Same H2 H3 ∧ H3 p1 = some (.lst (([1, -1, 10 ^ 18] : List Int).map V.int)) := by subst x1; exact ⟨Same.new h1, upd_same⟩
      walk_at "go"
      refine ⟨a, ts, 4, 3, rfl, (s2.trans s3).seq hS, ⟨by decide, by decide⟩, by decide, fun e e0 e1 => ?_⟩
      obtain ⟨e, rfl⟩ := Int.eq_ofNat_of_zero_le e0
      refine ⟨_, _, _, _, rfl, rfl, SqL.of k3, at_ints (show e < 3 by omega), ?_⟩
      walk_at "go"
      exact q2 _ _ ⟨_, rfl, True.intro⟩ s3
    obtain ⟨xs, rfl, _⟩ := ints_of hx
    rw [List.length_map] at hl
    walk_at "go"
    refine ⟨D1, _, rfl, .inl (SqL.of k2), fun D2 hD2 => ?_⟩
    generalize x3 : upd H2 D2 _ = H3
    obtain ⟨s3, k3⟩ : Same H2 H3 ∧ H3 D2 = some (.lst (xs.map V.int)) := by subst x3; exact ⟨Same.new hD2, upd_same⟩
    clear x3
    have s03 := s2.trans s3
    have kx3 := s3 _ _ k2
    walk_at "go"
    refine ⟨a, ts, 5, 30, rfl, s03.seq hS, ⟨by decide, by decide⟩, by decide, fun sp p0 p1 => ?_⟩
    walk_at "go"
    refine ⟨⟨by decide, by decide, by omega, by omega⟩, ?_⟩
    rw [show ((n : Int) - 1).toNat = n - 1 by omega]
    refine for_rangeD (lo := 1) (n := n - 1) (fun i σ H4 => ∃ (ys : List Int) (o5 o6 : Option V), σ = [some (.ref a), some (.int (n : Int)), some (.ref D1), some (.ref D2), some (.int (1 + sp)), o5, o6] ∧ Same H2 H4 ∧ ys.length = n ∧ ys.getD 0 0 = xs.getD 0 0 ∧ H4 D2 = some (.lst (ys.map V.int))) ⟨xs, _, _, rfl, s3, hl, rfl, k3⟩ ?_ ?_
    · rintro i _ H4 hi ⟨ys, o5, o6, rfl, s4, hy, hy0, k4⟩
      have ek : 1 + (i : Int) = ((1 + i : Nat) : Int) := by omega
      have hS4 : SqL K H4 a (ts.map V.int) := s4.seq (s2.seq hS)
      have hq0 : 0 ≤ (1 + (i : Int)) / (1 + sp) := Int.ediv_nonneg (by omega) (by omega)
      have hq1 : (1 + (i : Int)) / (1 + sp) ≤ 1 + i := Int.ediv_le_self _ (by omega)
      walk_at "go"
      refine ⟨a, ts, 6 + (1 + (i : Int)) / (1 + sp), 3, rfl, hS4, ⟨by omega, by omega⟩, by decide, fun st t0 t1 => ?_⟩
      walk_at "go"
      refine ite2 (fun _ => ?_) (fun _ => ?_)
      · walk_at "go"
        refine ⟨_, _, _, _, rfl, rfl, SqL.of k4, (by rw [ek]; exact at_ints (by omega)), ?_⟩
        walk_at "go"
        refine ⟨a, ts, 7, 5, rfl, hS4, ⟨by decide, by decide⟩, by decide, fun v v0 v1 => ?_⟩
        walk_at "go"
        refine ⟨D2, _, _, 1 + i, rfl, rfl, k4, (by rw [ek]; exact ixN_nat (by rw [List.length_map]; omega)), ?_⟩
        refine ⟨ys.set (1 + i) (ys.getD (1 + i) 0 + 1 + v), _, _, rfl, fun c o e => ?_, by rw [List.length_set]; exact hy, ?_, ?_⟩
        · rw [upd_ne (ne_of_none e hD2)]; exact s4 _ _ e
        · rw [← hy0]; exact getD_set_ne (by omega)
        · rw [upd_same, List.map_set]
      walk_at "go"
      refine ite2 (fun _ => ?_) (fun _ => ?_)
      · walk_at "go"
        refine ⟨a, ts, 40 + (1 + (i : Int)), 2, rfl, hS4, ⟨by omega, by omega⟩, by decide, fun s2' u0 u1 => ?_⟩
        walk_at "go"
        refine ite2 (fun _ => ?_) (fun _ => ?_)
        · walk_at "go"
          refine ⟨_, _, _, _, rfl, rfl, SqL.of k4, (by rw [ek]; exact at_ints (by omega)), ?_⟩
          walk_at "go"
          refine ⟨a, ts, 7, 5, rfl, hS4, ⟨by decide, by decide⟩, by decide, fun v v0 v1 => ?_⟩
          walk_at "go"
          refine ⟨D2, _, _, 1 + i, rfl, rfl, k4, (by rw [ek]; exact ixN_nat (by rw [List.length_map]; omega)), ?_⟩
          refine ⟨ys.set (1 + i) (ys.getD (1 + i) 0 + 1 + v), _, _, rfl, fun c o e => ?_, by rw [List.length_set]; exact hy, ?_, ?_⟩
          · rw [upd_ne (ne_of_none e hD2)]; exact s4 _ _ e
          · rw [← hy0]; exact getD_set_ne (by omega)
          · rw [upd_same, List.map_set]
        · exact ⟨ys, _, _, rfl, s4, hy, hy0, k4⟩
      · exact ⟨ys, _, _, rfl, s4, hy, hy0, k4⟩
    rintro _ H4 ⟨ys, o5, o6, rfl, s4, hy, hy0, k4⟩
    have en : (n : Int) - 1 = ((n - 1 : Nat) : Int) := by omega
    have kx4 := s4 _ _ k2
    walk_at "go"
    refine ⟨_, _, _, _, rfl, rfl, SqL.of kx4, (by rw [en]; exact at_ints (by omega)), ?_⟩
    walk_at "go"
    refine ⟨a, ts, 8, 3, rfl, s4.seq (s2.seq hS), ⟨by decide, by decide⟩, by decide, fun v v0 v1 => ?_⟩
    walk_at "go"
    refine ⟨D2, _, _, n - 1, rfl, rfl, k4, (by rw [en]; exact ixN_nat (by rw [List.length_map]; omega)), ?_⟩
    generalize x5 : upd H4 D2 _ = H5
    have k5 : H5 D2 = some (.lst ((ys.set (n - 1) (xs.getD (n - 1) 0 - 1 - v)).map V.int)) := by subst x5; rw [upd_same, List.map_set]
    have s5 : Same H2 H5 := fun c o e => by subst x5; rw [upd_ne (ne_of_none e hD2)]; exact s4 _ _ e
    clear x5
    walk_at "go"
    intro p6 h6
    refine q xs _ hl ⟨?_, by omega, by omega, ?_, ?_⟩ p6 D1 D2 _ (s2.trans (s5.trans (Same.new h6))) (Same.new h6 _ _ (s5 _ _ k2)) (Same.new h6 _ _ k5) upd_same
    · rw [List.length_set, hl, hy]
    · rw [getD_set_ne (by omega), hy0]
    · rw [hl, getD_set_eq (by omega)]; omega
theorem c__law_narrow (D : Def K mg "_law_narrow" s__law_narrow ["first", "second"]) (T : Tp w K mg cs) (c_narrow : Cal P w K mg base (L2.CX P w) 1 "narrow" (sp_narrow K cs)) : Cal P w K mg base CX0 2 "_law_narrow" (sp__law_narrow K cs) := by
  refine D.ok sc__law_narrow (fun vs H Q E h => ?_) (fun f cdv A outer s H vs Q E hr h => ?_)
  · obtain ⟨a, b, xs, ys, rfl, _⟩ := h; rfl
  · obtain ⟨a, b, xs, ys, rfl, hX, hY, hxl, hyl, qB, qG⟩ := h
    refine ⟨_, (pss_cons (ps_set (i := 2) sc__law_narrow.nd rfl (by first | exact Or.inl rfl | exact Or.inr rfl) (pe_lst (pa_cons (pe_callTy call_list_of (by rfl) T.m_list (by decide +kernel) (pa_cons (pv 0) pa_nil)) (pa_cons (pe_callTy call_list_of (by rfl) T.m_list (by decide +kernel) (pa_cons (pv 1) pa_nil)) pa_nil))))
      (pss_cons (ps_try_as (i := 4) (tb := _) (ts := _) (Wout := fun _ _ _ _ => False) rfl rfl sc__law_narrow.nd rfl rfl ⟨rfl, by decide, .inl T.g_BadClaim⟩ takes0 (fun W pn xe tk po => (pss_one (ps_set (i := 3) sc__law_narrow.nd rfl (by first | exact Or.inl rfl | exact Or.inr rfl) (pe_cS c_narrow hr (by decide) (by rfl) (fun σ => passAt tk σ) (pa_cons (pe_ix ix_listTr (pv 2) pe_int (fun _ _ => rfl)) (pa_cons (pe_ix ix_listTr (pv 2) pe_int (fun _ _ => rfl)) pa_nil)))))) (fun a oe cls d pn hz hf => (pss_one (ps_ret (pe_tup (pa_cons pe_str (pa_cons (pe_callB (call_isX0 hz hf T.E0_BadClaim) (by rfl) T.m_isinstance (by decide +kernel) (pa_cons (pv 4) (pa_cons (pe_glob (v := .ref cs.C_HostError) (by rfl) T.g_HostError rfl) pa_nil))) (pa_cons (pe_cmpR (op_eqDS (hu64 hr)) (pv 2) (pe_lst (pa_cons (pv 0) (pa_cons (pv 1) pa_nil))) (by first | rfl | exact nomark _)) pa_nil))))))))
      (pss_one (ps_ret (pe_tup (pa_cons (pv 3) (pa_cons (pe_cmpR (op_eqD (hu64 hr)) (pv 2) (pe_lst (pa_cons (pv 0) (pa_cons (pv 1) pa_nil))) (by first | rfl | exact nomark _)) pa_nil))))))), ?_⟩
    walk_at "go"
    intro l1 h1
    generalize x1 : upd H l1 _ = H1
    obtain ⟨s1, k1⟩ : Same H H1 ∧ H1 l1 = some (.lst (xs.map V.int)) := by subst x1; exact ⟨Same.new h1, upd_same⟩
    walk_at "go"
    refine ⟨b, _, rfl, .inl (s1.seq hY), fun l2 h2 => ?_⟩
    generalize x2 : upd H1 l2 _ = H2
    obtain ⟨s2, k2⟩ : Same H1 H2 ∧ H2 l2 = some (.lst (ys.map V.int)) := by subst x2; exact ⟨Same.new h2, upd_same⟩
    walk_at "go"
    intro l3 h3
    generalize x3 : upd H2 l3 _ = H3
    obtain ⟨s3, k3⟩ : Same H2 H3 ∧ H3 l3 = some (.lst [.ref l1, .ref l2]) := by subst x3; exact ⟨Same.new h3, upd_same⟩
    clear x1 x2 x3
    have s03 := s1.trans (s2.trans s3)
    have kp1 := s3 _ _ (s2 _ _ k1)
    have kp2 := s3 _ _ k2
    walk_at "go"
    refine ⟨_, _, _, _, rfl, rfl, SqL.of k3, rfl, ?_⟩
    walk_at "go"
    refine ⟨_, _, _, _, rfl, rfl, SqL.of k3, rfl, ?_⟩
    refine ⟨l1, l2, xs, ys, rfl, SqL.of kp1, SqL.of kp2, hxl, hyl, fun hb => ?_, fun hg t l H4 s4 kl kt => ?_⟩
    · refine ⟨true, T.exm_BadClaim_BadClaim, fun _ ea hea => ?_, fun z => Bool.noConfusion z⟩
      walk_at "go"
      refine ⟨_, _, true, rfl, rfl, rfl, fun u hu => hu, T.kit_BadClaim_HostError, ?_⟩
      walk_at "go"
      intro l5 h5
      generalize x5 : upd H3 l5 _ = H5
      obtain ⟨s5, k5⟩ : Same H3 H5 ∧ H5 l5 = some (.lst [.ref a, .ref b]) := by subst x5; exact ⟨Same.new h5, upd_same⟩
      have s05 := s03.trans s5
      refine eq_pair (s5 _ _ k3) k5 (SqL.of (s5 _ _ kp1)) (SqL.of (s5 _ _ kp2)) (s05.seq hX) (s05.seq hY) ?_
      walk_at "go"
      intro u hu
      exact qB hb u _ (s05.trans (Same.new hu)) upd_same
    · walk_at "go"
      intro l5 h5
      generalize x5 : upd H4 l5 _ = H5
      obtain ⟨s5, k5⟩ : Same H4 H5 ∧ H5 l5 = some (.lst [.ref a, .ref b]) := by subst x5; exact ⟨Same.new h5, upd_same⟩
      have s35 := s4.trans s5
      have s05 := s03.trans s35
      refine eq_pair (s35 _ _ k3) k5 (SqL.of (s35 _ _ kp1)) (SqL.of (s35 _ _ kp2)) (s05.seq hX) (s05.seq hY) ?_
      walk_at "go"
      intro u hu
      exact qG hg u t l _ (s05.trans (Same.new hu)) (Same.new hu _ _ (s5 _ _ kl)) (Same.new hu _ _ (s5 _ _ kt)) upd_same
theorem c__law_spoilt (D : Def K mg "_law_spoilt" s__law_spoilt ["tape", "pair"]) (T : Tp w K mg cs) (c__law_draw : Cal P w K mg base CX0 1 "_law_draw" (sp__law_draw K cs)) (c__law_equal : Cal P w K mg base CX0 5 "_law_equal" (sp__law_equal K cs 3)) (c__law_narrow : Cal P w K mg base CX0 2 "_law_narrow" (sp__law_narrow K cs)) : Cal P w K mg base CX0 6 "_law_spoilt" (sp__law_spoilt K cs) := by
  refine D.ok sc__law_spoilt (fun vs H Q E h => ?_) (fun f cdv A outer s H vs Q E hr h => ?_)
  · obtain ⟨a, p, x, y, ts, xs, ys, rfl, _⟩ := h; rfl
  · obtain ⟨a, p, x, y, ts, xs, ys, rfl, hS, kp, kx, ky, hG, q⟩ := h
    refine ⟨_, (pss_cons (ps_set (i := 2) sc__law_spoilt.nd rfl (by first | exact Or.inl rfl | exact Or.inr rfl) (pe_c c__law_draw hr (by decide) (by rfl) (pa_cons (pv 0) (pa_cons pe_int (pa_cons pe_int pa_nil)))))
      (pss_cons (ps_set (i := 3) sc__law_spoilt.nd rfl (by first | exact Or.inl rfl | exact Or.inr rfl) (pe_callTy call_list_of (by rfl) T.m_list (by decide +kernel) (pa_cons (pe_ix ix_list (pv 1) pe_int (fun _ _ => rfl)) pa_nil)))
      (pss_cons (ps_set (i := 4) sc__law_spoilt.nd rfl (by first | exact Or.inl rfl | exact Or.inr rfl) (pe_callTy call_list_of (by rfl) T.m_list (by decide +kernel) (pa_cons (pe_ix ix_list (pv 1) pe_int (fun _ _ => rfl)) pa_nil)))
      (C8.pss_cut (ps_if (pt_cmpR op_eq (pv 2) pe_int (by first | rfl | exact nomark _)) (pss_one (ps_expr (pe_bm PySem.F.plainAttrs_list PySem.F.slot_list_append PySem.F.type_list_append mt_append (pv 4) (pa_cons (pe_ix ix_list (pv 4) (pe_un un_neg pe_int) (fun _ _ => rfl)) pa_nil)))) (pss_one (ps_if (pt_cmpR op_eq (pv 2) pe_int (by first | rfl | exact nomark _)) (pss_one (ps_asg (pe_op op_add (pe_ix ix_list (pv 3) pe_int (fun _ _ => rfl)) pe_int) (pg_sub (pv 4) pe_int set_list))) (pss_one (ps_if (pt_cmpR op_eq (pv 2) pe_int (by first | rfl | exact nomark _)) (pss_one (ps_asg (pe_ix ix_list (pv 3) (pe_un un_neg pe_int) (fun _ _ => rfl)) (pg_sub (pv 4) (pe_un un_neg pe_int) set_list))) (pss_one (ps_if (pt_cmpR op_eq (pv 2) pe_int (by first | rfl | exact nomark _)) (pss_cons (ps_set (i := 3) sc__law_spoilt.nd rfl (by first | exact Or.inl rfl | exact Or.inr rfl) (pe_slice sl_list (pv 3) po_none (po_some pe_int)))
      (pss_one (ps_set (i := 4) sc__law_spoilt.nd rfl (by first | exact Or.inl rfl | exact Or.inr rfl) (pe_lst (pa_cons (pe_op op_add (pe_ix ix_list (pv 3) pe_int (fun _ _ => rfl)) pe_int) pa_nil))))) (pss_one (ps_if (pt_cmpR op_eq (pv 2) pe_int (by first | rfl | exact nomark _)) (pss_cons (ps_set (i := 3) sc__law_spoilt.nd rfl (by first | exact Or.inl rfl | exact Or.inr rfl) (pe_lst pa_nil))
      (pss_one (ps_set (i := 4) sc__law_spoilt.nd rfl (by first | exact Or.inl rfl | exact Or.inr rfl) (pe_lst pa_nil)))) (pss_cons (ps_set (i := 3) sc__law_spoilt.nd rfl (by first | exact Or.inl rfl | exact Or.inr rfl) (pe_op op_rep (pe_lst (pa_cons pe_int pa_nil)) pe_int))
      (pss_one (ps_set (i := 4) sc__law_spoilt.nd rfl (by first | exact Or.inl rfl | exact Or.inr rfl) (pe_op op_cat (pe_op op_rep (pe_lst (pa_cons pe_int pa_nil)) pe_int) (pe_lst (pa_cons pe_int pa_nil)))))))))))))))
      (pss_one (ps_ret (pe_c c__law_equal hr (by decide) (by rfl) (pa_cons (pe_c c__law_narrow hr (by decide) (by rfl) (pa_cons (pv 3) (pa_cons (pv 4) pa_nil))) (pa_cons (pe_tup (pa_cons pe_str (pa_cons pe_bl (pa_cons pe_bl pa_nil)))) pa_nil))))))))), ?_⟩
    obtain ⟨g1, g2, g3, g4, g5⟩ := hG
    walk_at "go"
    refine ⟨a, ts, 2, 6, rfl, hS, ⟨by decide, by decide⟩, by decide, fun bd b0 b1 => ?_⟩
    walk_at "go"
    refine ⟨_, _, _, _, rfl, rfl, SqL.of kp, rfl, ?_⟩
    walk_at "go"
    refine ⟨x, _, rfl, .inl (SqL.of kx), fun l1 h1 => ?_⟩
    generalize x1 : upd H l1 _ = H1
    obtain ⟨s1, k1⟩ : Same H H1 ∧ H1 l1 = some (.lst (xs.map V.int)) := by subst x1; exact ⟨Same.new h1, upd_same⟩
    walk_at "go"
    refine ⟨_, _, _, _, rfl, rfl, SqL.of (s1 _ _ kp), rfl, ?_⟩
    walk_at "go"
    refine ⟨y, _, rfl, .inl (SqL.of (s1 _ _ ky)), fun l2 h2 => ?_⟩
    generalize x2 : upd H1 l2 _ = H2
    obtain ⟨s2, k2⟩ : Same H1 H2 ∧ H2 l2 = some (.lst (ys.map V.int)) := by subst x2; exact ⟨Same.new h2, upd_same⟩
    clear x1 x2
    have n21 : l1 ≠ l2 := fun z => by rw [← z, k1] at h2; cases h2
    have kf := s2 _ _ k1
    have none2 : H l2 = none := none_of s1 h2
    have s02 := s1.trans s2
    walk_at "go"
    refine ⟨fun σ H3 => Same H H3 ∧ ∃ (f s : Addr) (us vs : List Int), H3 f = some (.lst (us.map V.int)) ∧ H3 s = some (.lst (vs.map V.int)) ∧ us.length ≤ 3000 ∧ vs.length ≤ 3000 ∧ ¬ Good us vs ∧ σ = [some (.ref a), some (.ref p), some (.int bd), some (.ref f), some (.ref s)], ?_, ?_⟩
    · walk_at "go"
      refine ite2 (fun _ => ?_) (fun _ => ?_)
      · walk_at "go"
        refine ⟨.inl ⟨rfl, _, SqL.of k2⟩, ?_⟩
        walk_at "go"
        refine ⟨_, _, _, _, rfl, rfl, SqL.of k2, at_end (by omega), ?_⟩
        refine ⟨_, _, _, rfl, rfl, k2, (by rw [List.length_map]; exact small64' (by omega)), ?_⟩
        refine ⟨fun c o e => ?_, l1, l2, xs, ys ++ [ys.getD (ys.length - 1) 0], ?_, ?_, by omega, by rw [List.length_append, List.length_singleton]; omega, fun g => ?_, rfl⟩
        · rw [upd_ne (ne_of_none e none2)]; exact s02 _ _ e
        · rw [upd_ne n21]; exact kf
        · rw [upd_same, List.map_append]; rfl
        · have := g.1; rw [List.length_append, List.length_singleton] at this; omega
      walk_at "go"
      refine ite2 (fun _ => ?_) (fun _ => ?_)
      · walk_at "go"
        refine ⟨_, _, _, _, rfl, rfl, SqL.of kf, at_first (by omega), ?_⟩
        walk_at "go"
        refine ⟨l2, _, _, 0, rfl, rfl, k2, ixN_nat (k := 0) (by rw [List.length_map]; omega), ?_⟩
        refine ⟨fun c o e => ?_, l1, l2, xs, ys.set 0 (xs.getD 0 0 + 1), ?_, ?_, by omega, by rw [List.length_set]; omega, fun g => ?_, rfl⟩
        · rw [upd_ne (ne_of_none e none2)]; exact s02 _ _ e
        · rw [upd_ne n21]; exact kf
        · rw [upd_same, List.map_set]
        · have := g.2.2.2.1; rw [getD_set_eq (by omega)] at this; omega
      walk_at "go"
      refine ite2 (fun _ => ?_) (fun _ => ?_)
      · walk_at "go"
        refine ⟨_, _, _, _, rfl, rfl, SqL.of kf, at_end (by omega), ?_⟩
        walk_at "go"
        refine ⟨l2, _, _, ys.length - 1, rfl, rfl, k2, (by rw [List.length_map]; exact ixN_last (by omega)), ?_⟩
        refine ⟨fun c o e => ?_, l1, l2, xs, ys.set (ys.length - 1) (xs.getD (xs.length - 1) 0), ?_, ?_, by omega, by rw [List.length_set]; omega, fun g => ?_, rfl⟩
        · rw [upd_ne (ne_of_none e none2)]; exact s02 _ _ e
        · rw [upd_ne n21]; exact kf
        · rw [upd_same, List.map_set]
        · have := g.2.2.2.2; rw [← g1, getD_set_eq (by omega)] at this; exact this rfl
      walk_at "go"
      refine ite2 (fun _ => ?_) (fun _ => ?_)
      · walk_at "go"
        refine ⟨l1, _, rfl, SqL.of kf, fun p3 h3 => ?_⟩
        generalize x3 : upd H2 p3 _ = H3
        obtain ⟨s3, k3⟩ : Same H2 H3 ∧ H3 p3 = some (.lst ((xs.take 1).map V.int)) := by
          subst x3
          refine ⟨Same.new h3, ?_⟩
          rw [upd_same, List.map_take]
          exact congrArg (fun z => some (HO.lst z)) (cut_to _ 1)
        have ht1 : (xs.take 1).length = 1 := by rw [List.length_take]; omega
        walk_at "go"
        refine ⟨_, _, _, _, rfl, rfl, SqL.of k3, at_first (by omega), ?_⟩
        walk_at "go"
        intro p4 h4
        generalize x4 : upd H3 p4 _ = H4
        obtain ⟨s4, k4⟩ : Same H3 H4 ∧ H4 p4 = some (.lst (([(xs.take 1).getD 0 0 + 1] : List Int).map V.int)) := by subst x4; exact ⟨Same.new h4, upd_same⟩
        exact ⟨s02.trans (s3.trans s4), p3, p4, _, _, s4 _ _ k3, k4, by omega, (by show 1 ≤ 3000; decide), fun g => by have := g.2.1; omega, rfl⟩
      walk_at "go"
      refine ite2 (fun _ => ?_) (fun _ => ?_)
      · walk_at "go"
        intro p3 h3
        generalize x3 : upd H2 p3 _ = H3
        obtain ⟨s3, k3⟩ : Same H2 H3 ∧ H3 p3 = some (.lst (([] : List Int).map V.int)) := by subst x3; exact ⟨Same.new h3, upd_same⟩
        walk_at "go"
        intro p4 h4
        generalize x4 : upd H3 p4 _ = H4
        obtain ⟨s4, k4⟩ : Same H3 H4 ∧ H4 p4 = some (.lst (([] : List Int).map V.int)) := by subst x4; exact ⟨Same.new h4, upd_same⟩
        exact ⟨s02.trans (s3.trans s4), p3, p4, _, _, s4 _ _ k3, k4, by decide, by decide, fun g => absurd g.2.1 (by decide), rfl⟩
      walk_at "go"
      intro p3 h3
      generalize x3 : upd H2 p3 _ = H3
      obtain ⟨s3, k3⟩ : Same H2 H3 ∧ H3 p3 = some (.lst [V.int 7]) := by subst x3; exact ⟨Same.new h3, upd_same⟩
      walk_at "go"
      refine ⟨p3, 2002, _, rfl, rfl, k3, by decide, by decide, by show 1 * 2002 ≤ sizeLine; exact small64 (by decide), fun p4 h4 => ?_⟩
      rw [show (2002 : Int).toNat = 2002 from rfl, rep_flat]
      generalize x4 : upd H3 p4 _ = H4
      obtain ⟨s4, k4⟩ : Same H3 H4 ∧ H4 p4 = some (.lst ((List.replicate 2002 (7 : Int)).map V.int)) := by subst x4; exact ⟨Same.new h4, upd_same⟩
      clear x4
      walk_at "go"
      intro p5 h5
      generalize x5 : upd H4 p5 _ = H5
      obtain ⟨s5, k5⟩ : Same H4 H5 ∧ H5 p5 = some (.lst [V.int 7]) := by subst x5; exact ⟨Same.new h5, upd_same⟩
      walk_at "go"
      refine ⟨p5, 2001, _, rfl, rfl, k5, by decide, by decide, by show 1 * 2001 ≤ sizeLine; exact small64 (by decide), fun p6 h6 => ?_⟩
      rw [show (2001 : Int).toNat = 2001 from rfl, rep_flat]
      generalize x6 : upd H5 p6 _ = H6
      obtain ⟨s6, k6⟩ : Same H5 H6 ∧ H6 p6 = some (.lst ((List.replicate 2001 (7 : Int)).map V.int)) := by subst x6; exact ⟨Same.new h6, upd_same⟩
      clear x6
      walk_at "go"
      intro p7 h7
      generalize x7 : upd H6 p7 _ = H7
      obtain ⟨s7, k7⟩ : Same H6 H7 ∧ H7 p7 = some (.lst (([8] : List Int).map V.int)) := by subst x7; exact ⟨Same.new h7, upd_same⟩
      refine ⟨p6, p7, _, _, rfl, rfl, s7 _ _ k6, k7, small64 (by rw [List.length_map, List.length_replicate]; decide), fun p8 h8 => ?_⟩
      rw [← List.map_append]
      generalize x8 : upd H7 p8 _ = H8
      obtain ⟨s8, k8⟩ : Same H7 H8 ∧ H8 p8 = some (.lst ((List.replicate 2001 (7 : Int) ++ [8]).map V.int)) := by subst x8; exact ⟨Same.new h8, upd_same⟩
      clear x8
      have s48 := s5.trans (s6.trans (s7.trans s8))
      exact ⟨s02.trans (s3.trans (s4.trans s48)), p4, p8, _, _, s48 _ _ k4, k8, by rw [List.length_replicate]; decide, by rw [List.length_append, List.length_replicate]; decide, fun g => by have := g.2.2.1; rw [List.length_replicate] at this; omega, rfl⟩
    rintro _ H3 ⟨s3, f, s, us, vs, kf3, ks3, hul, hvl, hb, rfl⟩
    walk_at "go"
    refine ⟨f, s, us, vs, rfl, SqL.of kf3, SqL.of ks3, hul, hvl, fun _ t H4 s4 k4 => ?_, fun hg => absurd hg hb⟩
    walk_at "go"
    intro u hu
    generalize x5 : upd H4 u _ = H5
    obtain ⟨s5, k5⟩ : Same H4 H5 ∧ H5 u = some (.tup [.str "bad", .bl true, .bl true]) := by subst x5; exact ⟨Same.new hu, upd_same⟩
    refine ⟨_, _, rfl, alBad3 (s5 _ _ k4) k5, ?_⟩
    walk_at "go"
    exact q _ (s3.trans (s4.trans s5))
theorem c_law {f : Addr} {fd : FuncData} (D : L2.Fun K "law" "law" s_law f fd) (T : Tp w K mg cs) (c__law_tape : Cal P w K mg base CX0 1 "_law_tape" (sp__law_tape K cs)) (c__law_claims : Cal P w K mg base CX0 2 "_law_claims" (sp__law_claims K cs)) (c__law_due : Cal P w K mg base CX0 1 "_law_due" (sp__law_due K cs)) (c__law_draw : Cal P w K mg base CX0 1 "_law_draw" (sp__law_draw K cs)) (c__law_spoilt : Cal P w K mg base CX0 6 "_law_spoilt" (sp__law_spoilt K cs)) (c__law_equal : Cal P w K mg base CX0 5 "_law_equal" (sp__law_equal K cs 3)) (c__law_narrow : Cal P w K mg base CX0 2 "_law_narrow" (sp__law_narrow K cs)) : FnOk P w K mg base CX0 7 f fd ["script"] (sp_law K cs) := by
  refine D.ok sc_law (fun vs H Q E h => ?_) (fun cdv A outer s H vs Q E hr h => ?_)
  · obtain ⟨a, ns, rfl, _⟩ := h; rfl
  · obtain ⟨a, ns0, rfl, hS, hlen, q⟩ := h
    refine ⟨_, (pss_cons (ps_set (i := 1) sc_law.nd rfl (by first | exact Or.inl rfl | exact Or.inr rfl) (pe_c c__law_tape hr (by decide) (by rfl) (pa_cons (pv 0) pa_nil)))
      (pss_cons (ps_set (i := 2) sc_law.nd rfl (by first | exact Or.inl rfl | exact Or.inr rfl) (pe_op op_add pe_int (pe_c c__law_draw hr (by decide) (by rfl) (pa_cons (pv 1) (pa_cons pe_int (pa_cons pe_int pa_nil))))))
      (C8.pss_cut (ps_if (pt_cmpR op_eq (pe_c c__law_draw hr (by decide) (by rfl) (pa_cons (pv 1) (pa_cons pe_int (pa_cons pe_int pa_nil)))) pe_int (by first | rfl | exact nomark _)) (pss_one (ps_set (i := 2) sc_law.nd rfl (by first | exact Or.inl rfl | exact Or.inr rfl) (pe_op op_add pe_int (pe_c c__law_draw hr (by decide) (by rfl) (pa_cons (pv 1) (pa_cons pe_int (pa_cons pe_int pa_nil))))))) pss_nil)
      (pss_cons (ps_set (i := 3) sc_law.nd rfl (by first | exact Or.inl rfl | exact Or.inr rfl) (pe_c c__law_claims hr (by decide) (by rfl) (pa_cons (pv 1) (pa_cons (pv 2) pa_nil))))
      (pss_cons (ps_if (pt_cmpR op_eq (pe_c c__law_draw hr (by decide) (by rfl) (pa_cons (pv 1) (pa_cons pe_int (pa_cons pe_int pa_nil)))) pe_int (by first | rfl | exact nomark _)) (pss_one (ps_ret (pe_c c__law_spoilt hr (by decide) (by rfl) (pa_cons (pv 1) (pa_cons (pv 3) pa_nil))))) pss_nil)
      (pss_cons (ps_set (i := 4) sc_law.nd rfl (by first | exact Or.inl rfl | exact Or.inr rfl) (pe_c c__law_due hr (by decide) (by rfl) (pa_cons (pe_ix ix_list (pv 3) pe_int (fun _ _ => rfl)) (pa_cons (pe_ix ix_list (pv 3) pe_int (fun _ _ => rfl)) pa_nil))))
      (pss_cons (ps_if (pt_not (pt_val (pe_c c__law_equal hr (by decide) (by rfl) (pa_cons (pe_c c__law_narrow hr (by decide) (by rfl) (pa_cons (pe_ix ix_list (pv 3) pe_int (fun _ _ => rfl)) (pa_cons (pe_ix ix_list (pv 3) pe_int (fun _ _ => rfl)) pa_nil))) (pa_cons (pe_tup (pa_cons (pv 4) (pa_cons pe_bl pa_nil))) pa_nil))))) (pss_one (ps_ret pe_bl)) pss_nil)
      (pss_cons (ps_set (i := 5) sc_law.nd rfl (by first | exact Or.inl rfl | exact Or.inr rfl) (pe_ix ix_tup (pv 4) pe_int (fun _ _ => rfl)))
      (pss_cons (ps_if (PW.pt (pw_or (pt_cmpR op_ne (pe_ix ix_list (pe_ix ix_list (pv 3) pe_int (fun _ _ => rfl)) (pv 5) (fun _ _ => rfl)) (pe_ix ix_list (pe_ix ix_list (pv 3) pe_int (fun _ _ => rfl)) (pv 5) (fun _ _ => rfl)) (by first | rfl | exact nomark _)) (pw_or1 (pt_cmpR op_eq (pe_ix ix_list (pe_ix ix_list (pv 3) pe_int (fun _ _ => rfl)) (pe_op op_add (pv 5) pe_int) (fun _ _ => rfl)) (pe_ix ix_list (pe_ix ix_list (pv 3) pe_int (fun _ _ => rfl)) (pe_op op_add (pv 5) pe_int) (fun _ _ => rfl)) (by first | rfl | exact nomark _))))) (pss_one (ps_ret pe_bl)) pss_nil)
      (pss_cons (ps_set (i := 6) sc_law.nd rfl (by first | exact Or.inl rfl | exact Or.inr rfl) (pe_lst (pa_cons (pe_op op_rep (pe_lst (pa_cons pe_int pa_nil)) (pv 2)) (pa_cons (pe_op op_rep (pe_lst (pa_cons pe_int pa_nil)) (pv 2)) pa_nil))))
      (pss_cons (ps_for PassesOwn.never rfl (pi_list (pe_op op_cat (pe_ix ix_tup (pv 4) pe_int (fun _ _ => rfl)) (pe_lst (pa_cons pe_int (pa_cons (pe_op op_sub (pv 2) pe_int) pa_nil))))) (pg_name (i := 7) sc_law.nd rfl (by first | exact Or.inl rfl | exact Or.inr rfl)) (pss_one (ps_for PassesOwn.never rfl (pi_range1 (by rfl) T.m_range (pa_cons pe_int pa_nil)) (pg_name (i := 9) sc_law.nd rfl (by first | exact Or.inl rfl | exact Or.inr rfl)) (pss_cons (ps_set (i := 10) sc_law.nd rfl (by first | exact Or.inl rfl | exact Or.inr rfl) (pe_ix ix_list (pv 6) (pv 9) (fun _ _ => rfl)))
      (pss_one (ps_asg (pe_ix ix_list (pe_ix ix_list (pv 3) (pv 9) (fun _ _ => rfl)) (pv 7) (fun _ _ => rfl)) (pg_sub (pv 10) (pv 7) set_list)))))))
      (pss_cons (ps_set (i := 8) sc_law.nd rfl (by first | exact Or.inl rfl | exact Or.inr rfl) pe_int)
      (pss_cons (ps_for PassesOwn.never rfl (pi_range1 (by rfl) T.m_range (pa_cons (pe_callB call_len_seq (by rfl) T.m_len PySem.boot_len (pa_cons (pe_ix ix_tup (pv 4) pe_int (fun _ _ => rfl)) pa_nil)) pa_nil)) (pg_name (i := 7) sc_law.nd rfl (by first | exact Or.inl rfl | exact Or.inr rfl)) (pss_one (ps_set (i := 8) sc_law.nd rfl (by first | exact Or.inl rfl | exact Or.inr rfl) (pe_op op_mul (pv 8) pe_int))))
      (pss_one (ps_ret (pe_and (pe_cmpR op_le (pv 8) (pe_op op_mul pe_int (pv 2)) (by first | rfl | exact nomark _)) (pe_one (pe_c c__law_equal hr (by decide) (by rfl) (pa_cons (pe_c c__law_narrow hr (by decide) (by rfl) (pa_cons (pe_ix ix_list (pv 6) pe_int (fun _ _ => rfl)) (pa_cons (pe_ix ix_list (pv 6) pe_int (fun _ _ => rfl)) pa_nil))) (pa_cons (pe_tup (pa_cons (pv 4) (pa_cons pe_bl pa_nil))) pa_nil)))))))))))))))))))), ?_⟩
    walk_at "go"
    refine ⟨a, ns0, rfl, hS, hlen, fun ts hN hT p H1 s1 _ k1 => ?_⟩
    have hS1 : SqL K H1 p (ts.map V.int) := SqL.of k1
    walk_at "go"
    refine ⟨p, ts, 0, 79, rfl, hS1, ⟨by decide, by decide⟩, by decide, fun c0 c1 c2 => ?_⟩
    walk_at "go"
    refine ⟨fun σ H2 => H1 = H2 ∧ ∃ n : Nat, 2 ≤ n ∧ n ≤ 2001 ∧ σ = [some (.ref a), some (.ref p), some (.int (n : Int)), none, none, none, none, none, none, none, none], ?_, ?_⟩
    · walk_at "go"
      refine ⟨p, ts, 1, 8, rfl, hS1, ⟨by decide, by decide⟩, by decide, fun d d0 d1 => ?_⟩
      walk_at "go"
      refine ite2 (fun _ => ?_) (fun _ => ?_)
      · walk_at "go"
        refine ⟨p, ts, 0, 2, rfl, hS1, ⟨by decide, by decide⟩, by decide, fun d d0 d1 => ?_⟩
        walk_at "go"
        exact ⟨(2000 + d).toNat, by omega, by omega, by rw [show (((2000 + d).toNat : Nat) : Int) = 2000 + d by omega]; rfl⟩
      · exact ⟨rfl, (2 + c0).toNat, by omega, by omega, by rw [show (((2 + c0).toNat : Nat) : Int) = 2 + c0 by omega]; rfl⟩
    rintro _ _ ⟨rfl, n, n2, n3, rfl⟩
    walk_at "go"
    refine ⟨p, ts, n, rfl, hS1, n2, n3, fun xs ys hxl hG pp x y H2 s2 kx ky kp => ?_⟩
    have hS2 := s2.seq hS1
    obtain ⟨g1, g2, g3, g4, g5⟩ := hG
    walk_at "go"
    refine ⟨p, ts, 1, 4, rfl, hS2, ⟨by decide, by decide⟩, by decide, fun d d0 d1 => ?_⟩
    walk_at "go"
    refine ite2 (fun _ => ?_) (fun _ => ?_)
    · walk_at "go"
      refine ⟨p, pp, x, y, ts, xs, ys, rfl, hS2, kp, kx, ky, ⟨g1, g2, g3, g4, g5⟩, fun H3 _ => ?_⟩
      exact q _
    walk_at "go"
    refine ⟨_, _, _, _, rfl, rfl, SqL.of kp, rfl, ?_⟩
    walk_at "go"
    refine ⟨_, _, _, _, rfl, rfl, SqL.of kp, rfl, ?_⟩
    refine ⟨x, y, xs, ys, rfl, SqL.of kx, SqL.of ky, by omega, g1, g2, fun t l H3 s3 kl kt => ?_⟩
    have kx3 := s3 _ _ kx
    have ky3 := s3 _ _ ky
    have kp3 := s3 _ _ kp
    walk_at "go"
    refine ⟨_, _, _, _, rfl, rfl, SqL.of kp3, rfl, ?_⟩
    walk_at "go"
    refine ⟨_, _, _, _, rfl, rfl, SqL.of kp3, rfl, ?_⟩
    refine ⟨x, y, xs, ys, rfl, SqL.of kx3, SqL.of ky3, by omega, by omega, fun hb => absurd ⟨g1, g2, g3, g4, g5⟩ hb, fun _ u t2 l2 H4 s4 kl2 kt2 ku => ?_⟩
    walk_at "go"
    intro v hv
    generalize x5 : upd H4 v _ = H5
    obtain ⟨s5, k5⟩ : Same H4 H5 ∧ H5 v = some (.tup [.ref t, .bl true]) := by subst x5; exact ⟨Same.new hv, upd_same⟩
    clear x5
    have s35 := s4.trans s5
    have kl5 := s35 _ _ kl
    have kt5 := s35 _ _ kt
    have hlen2 := nar_len xs ys g2 g3 g4 g5
    refine ⟨_, _, rfl, alTold (s5 _ _ ku) k5 (s5 _ _ kt2) kt5 (s5 _ _ kl2) kl5 (by omega), ?_⟩
    have kx5 := s35 _ _ kx3
    have ky5 := s35 _ _ ky3
    have kp5 := s35 _ _ kp3
    obtain ⟨⟨t0, ht0, htl, htm, htz, htb⟩, r1, r2, r3⟩ := nr_ok (xs := xs) (ys := ys) 12 0 (xs.length - 1) [] (by decide) (by omega) (by omega) g4 g5
    rw [List.nil_append] at ht0
    have hnar : nr xs ys 12 0 (xs.length - 1) [] = nar xs ys := rfl
    rw [hnar] at r1 r2 r3 ht0
    obtain ⟨lo, hlo⟩ : ∃ lo, lo = (nar xs ys).1 := ⟨_, rfl⟩
    rw [← hlo] at r1 r2 r3
    have kt6 : H5 t = some (.tup [.int (lo : Int), .ref l]) := by rw [hlo]; exact kt5
    have kl6 : H5 l = some (.lst (t0.map V.int)) := by rw [← ht0]; exact kl5
    have elo : (lo : Int) + 1 = ((lo + 1 : Nat) : Int) := by omega
    walk_at "go"
    refine ⟨_, _, _, _, rfl, rfl, SqT.of kt6, rfl, ?_⟩
    walk_at "go"
    refine ⟨_, _, _, _, rfl, rfl, SqL.of kp5, rfl, ?_⟩
    walk_at "go"
    refine ⟨_, _, _, _, rfl, rfl, SqL.of kx5, at_ints (k := lo) (by omega), ?_⟩
    walk_at "go"
    refine ⟨_, _, _, _, rfl, rfl, SqL.of kp5, rfl, ?_⟩
    walk_at "go"
    refine ⟨_, _, _, _, rfl, rfl, SqL.of ky5, at_ints (k := lo) (by omega), ?_⟩
    walk_at "go"
    refine ifNe r1 ?_
    walk_at "go"
    refine ⟨_, _, _, _, rfl, rfl, SqL.of kp5, rfl, ?_⟩
    walk_at "go"
    refine ⟨_, _, _, _, rfl, rfl, SqL.of kx5, (by rw [elo]; exact at_ints (by omega)), ?_⟩
    walk_at "go"
    refine ⟨_, _, _, _, rfl, rfl, SqL.of kp5, rfl, ?_⟩
    walk_at "go"
    refine ⟨_, _, _, _, rfl, rfl, SqL.of ky5, (by rw [elo]; exact at_ints (by omega)), ?_⟩
    walk_at "go"
    refine ifEqN r2 ?_
    walk_at "go"
    intro p6 h6
    generalize x6 : upd H5 p6 _ = H6
    obtain ⟨s6, k6⟩ : Same H5 H6 ∧ H6 p6 = some (.lst [V.int 0]) := by subst x6; exact ⟨Same.new h6, upd_same⟩
    walk_at "go"
    refine ⟨p6, (n : Int), _, rfl, rfl, k6, by omega, by omega, by show 1 * _ ≤ sizeLine; exact small64 (by omega), fun o1 h7 => ?_⟩
    rw [Int.toNat_natCast, rep_flat]
    generalize x7 : upd H6 o1 _ = H7
    obtain ⟨s7, k7⟩ : Same H6 H7 ∧ H7 o1 = some (.lst ((List.replicate n (0 : Int)).map V.int)) := by subst x7; exact ⟨Same.new h7, upd_same⟩
    clear x6 x7
    walk_at "go"
    intro p8 h8
    generalize x8 : upd H7 p8 _ = H8
    obtain ⟨s8, k8⟩ : Same H7 H8 ∧ H8 p8 = some (.lst [V.int 1]) := by subst x8; exact ⟨Same.new h8, upd_same⟩
    walk_at "go"
    refine ⟨p8, (n : Int), _, rfl, rfl, k8, by omega, by omega, by show 1 * _ ≤ sizeLine; exact small64 (by omega), fun o2 h9 => ?_⟩
    rw [Int.toNat_natCast, rep_flat]
    generalize x9 : upd H8 o2 _ = H9
    obtain ⟨s9, k9⟩ : Same H8 H9 ∧ H9 o2 = some (.lst ((List.replicate n (1 : Int)).map V.int)) := by subst x9; exact ⟨Same.new h9, upd_same⟩
    clear x8 x9
    have k91 := s9 _ _ (s8 _ _ k7)
    have n12 : o1 ≠ o2 := fun z => by rw [← z, s8 _ _ k7] at h9; cases h9
    have z1 : H5 o1 = none := none_of s6 h7
    have z2 : H5 o2 = none := none_of (s6.trans (s7.trans s8)) h9
    have s59 := s6.trans (s7.trans (s8.trans s9))
    walk_at "go"
    intro oo h10
    generalize x10 : upd H9 oo _ = H10
    obtain ⟨s10, k10⟩ : Same H9 H10 ∧ H10 oo = some (.lst [.ref o1, .ref o2]) := by subst x10; exact ⟨Same.new h10, upd_same⟩
    clear x10
    have s510 := s59.trans s10
    have kt10 := s510 _ _ kt6
    have kl10 := s510 _ _ kl6
    walk_at "go"
    refine ⟨_, _, _, _, rfl, rfl, SqT.of kt10, rfl, ?_⟩
    walk_at "go"
    intro q1 h11
    generalize x11 : upd H10 q1 _ = H11
    obtain ⟨s11, k11⟩ : Same H10 H11 ∧ H11 q1 = some (.lst (([0, (n : Int) - 1] : List Int).map V.int)) := by subst x11; exact ⟨Same.new h11, upd_same⟩
    refine ⟨l, q1, _, _, rfl, rfl, s11 _ _ kl10, k11, small64 (by rw [List.length_map, List.length_map]; show _ + 2 ≤ _; omega), fun D12 h12 => ?_⟩
    rw [← List.map_append]
    obtain ⟨ks, hks⟩ : ∃ ks, ks = t0 ++ [0, (n : Int) - 1] := ⟨_, rfl⟩
    rw [← hks]
    generalize x12 : upd H11 D12 _ = H12
    obtain ⟨s12, k12⟩ : Same H11 H12 ∧ H12 D12 = some (.lst (ks.map V.int)) := by subst x12; exact ⟨Same.new h12, upd_same⟩
    clear x11 x12
    have hkin : ∀ m ∈ ks, ∃ k : Nat, m = (k : Int) ∧ k < n := fun m hm => by
      rw [hks] at hm
      rcases List.mem_append.mp hm with hm | hm
      · obtain ⟨k, e, hk⟩ := htm m hm
        exact ⟨k, e, by omega⟩
      · rcases List.mem_cons.mp hm with e | hm
        · exact ⟨0, e, by omega⟩
        · exact ⟨n - 1, by rw [List.mem_singleton.mp hm]; omega, by omega⟩
    have s1012 := s11.trans s12
    have e1 := s1012 _ _ (s10 _ _ k91)
    have e2 := s1012 _ _ (s10 _ _ k9)
    have eo := s1012 _ _ k10
    have no1 : oo ≠ o1 := fun z => by rw [z, k91] at h10; cases h10
    have no2 : oo ≠ o2 := fun z => by rw [z, k9] at h10; cases h10
    have nd1 : D12 ≠ o1 := fun z => by rw [z, s11 _ _ (s10 _ _ k91)] at h12; cases h12
    have nd2 : D12 ≠ o2 := fun z => by rw [z, s11 _ _ (s10 _ _ k9)] at h12; cases h12
    have s512 : Same H5 H12 := s510.trans s1012
    have cov0 : Cov n xs (List.replicate n 0) [] := ⟨List.length_replicate, fun m h => nomatch h⟩
    have cov1 : Cov n ys (List.replicate n 1) [] := ⟨List.length_replicate, fun m h => nomatch h⟩
    refine ⟨_, rfl, ⟨_, SqL.of k12⟩, for_listD (xs := ks.map V.int) (fun i σ H' => Same H5 H' ∧ H' oo = some (.lst [.ref o1, .ref o2]) ∧ H' D12 = some (.lst (ks.map V.int)) ∧ ∃ (us vs : List Int) (o7 o9 o10 : Option V), H' o1 = some (.lst (us.map V.int)) ∧ H' o2 = some (.lst (vs.map V.int)) ∧ Cov n xs us (ks.take i) ∧ Cov n ys vs (ks.take i) ∧ σ = [some (.ref a), some (.ref p), some (.int (n : Int)), some (.ref pp), some (.ref t), some (.int (lo : Int)), some (.ref oo), o7, none, o9, o10]) ⟨s512, eo, k12, _, _, _, _, _, e1, e2, cov0, cov1, rfl⟩ (fun i σ H' _ h => SqL.of h.2.2.1) ?_ ?_⟩
    · rintro i z _ H13 hz ⟨s13, f1, f2, us, vs, o7, o9, o10, f3, f4, f5, f6, rfl⟩
      obtain ⟨kz, hkz, rfl⟩ : ∃ b, ks[i]? = some b ∧ z = .int b := by
        rw [List.getElem?_map] at hz
        cases e : ks[i]? with
        | none => rw [e] at hz; cases hz
        | some b => rw [e] at hz; cases hz; exact ⟨b, rfl, rfl⟩
      obtain ⟨k, rfl, hk⟩ := hkin kz (List.mem_of_getElem? hkz)
      have etk : ks.take (i + 1) = ks.take i ++ [(k : Int)] := by rw [List.take_add_one, hkz]; rfl
      rw [etk]
      walk_at "go"
      refine for_rangeD (lo := 0) (n := 2) (fun j σ H' => Same H5 H' ∧ H' oo = some (.lst [.ref o1, .ref o2]) ∧ H' D12 = some (.lst (ks.map V.int)) ∧ ∃ (us vs : List Int) (o9 o10 : Option V), H' o1 = some (.lst (us.map V.int)) ∧ H' o2 = some (.lst (vs.map V.int)) ∧ Cov n xs us (ks.take i) ∧ Cov n ys vs (ks.take i) ∧ (1 ≤ j → Cov n xs us (ks.take i ++ [(k : Int)])) ∧ (2 ≤ j → Cov n ys vs (ks.take i ++ [(k : Int)])) ∧ σ = [some (.ref a), some (.ref p), some (.int (n : Int)), some (.ref pp), some (.ref t), some (.int (lo : Int)), some (.ref oo), some (.int (k : Int)), none, o9, o10]) ⟨s13, f1, f2, us, vs, _, _, f3, f4, f5, f6, fun z => absurd z (by decide), fun z => absurd z (by decide), rfl⟩ ?_ ?_
      · clear f3 f4 f5 f6 f1 f2 s13 us vs
        rintro j _ H14 hj ⟨s14, f1, f2, us, vs, o9, o10, f3, f4, f5, f6, f7, f8, rfl⟩
        rw [Int.zero_add]
        obtain rfl | rfl : j = 0 ∨ j = 1 := by omega
        · walk_at "go"
          refine ⟨_, _, _, _, rfl, rfl, SqL.of f1, rfl, ?_⟩
          walk_at "go"
          refine ⟨_, _, _, _, rfl, rfl, SqL.of (s14 _ _ kp5), rfl, ?_⟩
          walk_at "go"
          refine ⟨_, _, _, _, rfl, rfl, SqL.of (s14 _ _ kx5), at_ints (k := k) (by omega), ?_⟩
          walk_at "go"
          refine ⟨o1, _, _, k, rfl, rfl, f3, ixN_nat (by rw [List.length_map, f5.1]; exact hk), ?_⟩
          have cs := f5.set hk
          refine ⟨fun c o e => ?_, by rw [upd_ne no1]; exact f1, by rw [upd_ne nd1]; exact f2, us.set k (xs.getD k 0), vs, _, _, by rw [upd_same, List.map_set], by rw [upd_ne (fun z => n12 z.symm)]; exact f4, cs.left, f6, fun _ => cs, fun z => absurd z (by decide), rfl⟩
          rw [upd_ne (ne_of_none e z1)]; exact s14 _ _ e
        · walk_at "go"
          refine ⟨_, _, _, _, rfl, rfl, SqL.of f1, rfl, ?_⟩
          walk_at "go"
          refine ⟨_, _, _, _, rfl, rfl, SqL.of (s14 _ _ kp5), rfl, ?_⟩
          walk_at "go"
          refine ⟨_, _, _, _, rfl, rfl, SqL.of (s14 _ _ ky5), at_ints (k := k) (by omega), ?_⟩
          walk_at "go"
          refine ⟨o2, _, _, k, rfl, rfl, f4, ixN_nat (by rw [List.length_map, f6.1]; exact hk), ?_⟩
          have cs := f6.set hk
          refine ⟨fun c o e => ?_, by rw [upd_ne no2]; exact f1, by rw [upd_ne nd2]; exact f2, us, vs.set k (ys.getD k 0), _, _, by rw [upd_ne n12]; exact f3, by rw [upd_same, List.map_set], f5, cs.left, fun _ => f7 (by decide), fun _ => cs, rfl⟩
          rw [upd_ne (ne_of_none e z2)]; exact s14 _ _ e
      · rintro _ H14 ⟨s14, f1, f2, us, vs, o9, o10, f3, f4, f5, f6, f7, f8, rfl⟩
        exact ⟨s14, f1, f2, us, vs, _, _, _, f3, f4, f7 (by decide), f8 (by decide), rfl⟩
    rintro _ H13 ⟨s13, f1, f2, us, vs, o7, o9, o10, f3, f4, f5, f6, rfl⟩
    rw [List.length_map, List.take_length] at f5 f6
    have kt13 := s13 _ _ kt6
    have kl13 := s13 _ _ kl6
    walk_at "go"
    refine ⟨_, _, _, _, rfl, rfl, SqT.of kt13, rfl, ?_⟩
    walk_at "go"
    refine ⟨l, _, rfl, .inl (SqL.of kl13), ?_⟩
    simp only [List.length_map]
    walk_at "go"
    refine for_rangeD (lo := 0) (n := t0.length) (fun i σ H' => H13 = H' ∧ ∃ (o7 : Option V), σ = [some (.ref a), some (.ref p), some (.int (n : Int)), some (.ref pp), some (.ref t), some (.int (lo : Int)), some (.ref oo), o7, some (.int ((2 ^ i : Nat) : Int)), o9, o10]) ⟨rfl, _, rfl⟩ ?_ ?_
    · rintro i _ _ hi ⟨rfl, o7, rfl⟩
      have ep : (((2 : Nat) ^ (i + 1) : Nat) : Int) = (((2 : Nat) ^ i : Nat) : Int) * 2 := by rw [Nat.pow_succ, Int.natCast_mul]; rfl
      walk_at "go"
      exact ⟨_, by rw [ep]; rfl⟩
    rintro _ _ ⟨rfl, o7, rfl⟩
    have hpow : 2 ^ t0.length ≤ 2 * n := by
      by_cases c : xs.length - 1 = 0 + 1
      · rw [htz c]; simp; omega
      · have := htb (by omega); omega
    have hpow' : (((2 : Nat) ^ t0.length : Nat) : Int) ≤ 2 * (n : Int) := by exact_mod_cast hpow
    have hmem0 : ((0 : Nat) : Int) ∈ ks := by rw [hks]; simp
    have hmem1 : ((n - 1 : Nat) : Int) ∈ ks := by rw [hks, show ((n - 1 : Nat) : Int) = (n : Int) - 1 by omega]; simp
    have hGu : Good us vs := by
      refine ⟨by rw [f5.1, f6.1], by rw [f5.1]; exact n2, by rw [f5.1]; exact n3, ?_, ?_⟩
      · rw [f5.2 0 hmem0, f6.2 0 hmem0]; exact g4
      · rw [f5.1, f5.2 _ hmem1, f6.2 _ hmem1, ← hxl]; exact g5
    have hnu : nar us vs = nar xs ys := by
      unfold nar
      rw [f5.1, ← hxl]
      refine nr_congr 12 0 (xs.length - 1) [] fun k hk => ?_
      have hk' : (k : Int) ∈ ks := by
        rw [hks, ← ht0]
        exact List.mem_append.mpr (.inl hk)
      rw [f5.2 k hk', f6.2 k hk']
    walk_at "go"
    rw [if_pos (decide_eq_true hpow')]
    walk_at "go"
    refine ⟨_, _, _, _, rfl, rfl, SqL.of f1, rfl, ?_⟩
    walk_at "go"
    refine ⟨_, _, _, _, rfl, rfl, SqL.of f1, rfl, ?_⟩
    refine ⟨o1, o2, us, vs, rfl, SqL.of f3, SqL.of f4, by rw [f5.1]; omega, by rw [f6.1]; omega, fun hb => absurd hGu hb, fun _ u14 t14 l14 H14 s14 kl14 kt14 ku14 => ?_⟩
    rw [hnu] at kl14 kt14
    walk_at "go"
    intro v15 h15
    generalize x15 : upd H14 v15 _ = H15
    obtain ⟨s15, k15⟩ : Same H14 H15 ∧ H15 v15 = some (.tup [.ref t, .bl true]) := by subst x15; exact ⟨Same.new h15, upd_same⟩
    have s1315 := s13.trans (s14.trans s15)
    refine ⟨_, _, rfl, alTold (s15 _ _ ku14) k15 (s15 _ _ kt14) (s1315 _ _ kt5) (s15 _ _ kl14) (s1315 _ _ kl5) (by omega), ?_⟩
    exact q _
end
theorem all_mk {l : PySem.W.OpenLaw} {w : World} {K : PySem.W.Frag} {h : Heap} {mg : Str → Option Value} {fa f0 f1 f2 f3 f4 f5 f6 f7 f8 : Addr} (X : K.In h) (G : h.Ns mainGlobals mg) (hfa : mg "law" = some (.ref fa))
    {od0 an0 od1 an1 od2 an2 od3 an3 od4 an4 od5 an5 od6 an6 od7 an7 od8 an8 : Option Addr} {sl0 sl1 sl2 sl3 sl4 sl5 sl6 sl7 sl8 : Array (Option Value)} {oc0 kV0 dc0 pm0 cd0 ct0 oc1 kV1 dc1 pm1 cd1 ct1 oc2 kV2 dc2 pm2 cd2 ct2 oc3 kV3 dc3 pm3 cd3 ct3 oc4 kV4 dc4 pm4 cd4 ct4 oc5 kV5 dc5 pm5 cd5 ct5 oc6 kV6 dc6 pm6 cd6 ct6 oc7 kV7 dc7 pm7 cd7 ct7 oc8 kV8 dc8 pm8 cd8 ct8 : Value}
    (a0 : PySem.W.nsIn K mainGlobals "narrow" = some (some (.ref f0))) (l0 : K.lookup f0 = some ⟨oc0, od0, .func (PySem.W.fnOf "narrow" "narrow" (defArgs s_narrow) (defBody s_narrow) (defScope s_narrow) .none kV0 dc0 pm0 an0 cd0 ct0), sl0⟩) (c0 : PySem.W.codeIn K cd0 "narrow" = true) (k0 : PySem.W.keepIn K (.ref f0) = true)
    (a1 : PySem.W.nsIn K mainGlobals "_law_tape" = some (some (.ref f1))) (l1 : K.lookup f1 = some ⟨oc1, od1, .func (PySem.W.fnOf "_law_tape" "_law_tape" (defArgs s__law_tape) (defBody s__law_tape) (defScope s__law_tape) .none kV1 dc1 pm1 an1 cd1 ct1), sl1⟩) (c1 : PySem.W.codeIn K cd1 "_law_tape" = true) (k1 : PySem.W.keepIn K (.ref f1) = true)
    (a2 : PySem.W.nsIn K mainGlobals "_law_draw" = some (some (.ref f2))) (l2 : K.lookup f2 = some ⟨oc2, od2, .func (PySem.W.fnOf "_law_draw" "_law_draw" (defArgs s__law_draw) (defBody s__law_draw) (defScope s__law_draw) .none kV2 dc2 pm2 an2 cd2 ct2), sl2⟩) (c2 : PySem.W.codeIn K cd2 "_law_draw" = true) (k2 : PySem.W.keepIn K (.ref f2) = true)
    (a3 : PySem.W.nsIn K mainGlobals "_law_equal" = some (some (.ref f3))) (l3 : K.lookup f3 = some ⟨oc3, od3, .func (PySem.W.fnOf "_law_equal" "_law_equal" (defArgs s__law_equal) (defBody s__law_equal) (defScope s__law_equal) .none kV3 dc3 pm3 an3 cd3 ct3), sl3⟩) (c3 : PySem.W.codeIn K cd3 "_law_equal" = true) (k3 : PySem.W.keepIn K (.ref f3) = true)
    (a4 : PySem.W.nsIn K mainGlobals "_law_claims" = some (some (.ref f4))) (l4 : K.lookup f4 = some ⟨oc4, od4, .func (PySem.W.fnOf "_law_claims" "_law_claims" (defArgs s__law_claims) (defBody s__law_claims) (defScope s__law_claims) .none kV4 dc4 pm4 an4 cd4 ct4), sl4⟩) (c4 : PySem.W.codeIn K cd4 "_law_claims" = true) (k4 : PySem.W.keepIn K (.ref f4) = true)
    (a5 : PySem.W.nsIn K mainGlobals "_law_narrow" = some (some (.ref f5))) (l5 : K.lookup f5 = some ⟨oc5, od5, .func (PySem.W.fnOf "_law_narrow" "_law_narrow" (defArgs s__law_narrow) (defBody s__law_narrow) (defScope s__law_narrow) .none kV5 dc5 pm5 an5 cd5 ct5), sl5⟩) (c5 : PySem.W.codeIn K cd5 "_law_narrow" = true) (k5 : PySem.W.keepIn K (.ref f5) = true)
    (a6 : PySem.W.nsIn K mainGlobals "_law_due" = some (some (.ref f6))) (l6 : K.lookup f6 = some ⟨oc6, od6, .func (PySem.W.fnOf "_law_due" "_law_due" (defArgs s__law_due) (defBody s__law_due) (defScope s__law_due) .none kV6 dc6 pm6 an6 cd6 ct6), sl6⟩) (c6 : PySem.W.codeIn K cd6 "_law_due" = true) (k6 : PySem.W.keepIn K (.ref f6) = true)
    (a7 : PySem.W.nsIn K mainGlobals "_law_spoilt" = some (some (.ref f7))) (l7 : K.lookup f7 = some ⟨oc7, od7, .func (PySem.W.fnOf "_law_spoilt" "_law_spoilt" (defArgs s__law_spoilt) (defBody s__law_spoilt) (defScope s__law_spoilt) .none kV7 dc7 pm7 an7 cd7 ct7), sl7⟩) (c7 : PySem.W.codeIn K cd7 "_law_spoilt" = true) (k7 : PySem.W.keepIn K (.ref f7) = true)
    (a8 : PySem.W.nsIn K mainGlobals "law" = some (some (.ref f8))) (l8 : K.lookup f8 = some ⟨oc8, od8, .func (PySem.W.fnOf "law" "law" (defArgs s_law) (defBody s_law) (defScope s_law) .none kV8 dc8 pm8 an8 cd8 ct8), sl8⟩) (c8 : PySem.W.codeIn K cd8 "law" = true) (k8 : PySem.W.keepIn K (.ref f8) = true)
    (z_bool : PySem.W.nsIn K mainGlobals "bool" = some none)
    (z_int : PySem.W.nsIn K mainGlobals "int" = some none)
    (z_isinstance : PySem.W.nsIn K mainGlobals "isinstance" = some none)
    (z_len : PySem.W.nsIn K mainGlobals "len" = some none)
    (z_list : PySem.W.nsIn K mainGlobals "list" = some none)
    (z_range : PySem.W.nsIn K mainGlobals "range" = some none)
    (z_str : PySem.W.nsIn K mainGlobals "str" = some none)
    (z_tuple : PySem.W.nsIn K mainGlobals "tuple" = some none)
    {cC_HostError cC_BadClaim : Addr}
    (sp0 : PySem.W.specialIn K (.builtin "object.__class__") "__get__" = some (some (.builtin "getset_descriptor.__get__"))) (tk0 : PySem.W.takesIn K (.builtin "object.__class__") = some true)
    (aC_HostError : PySem.W.nsIn K mainGlobals "HostError" = some (some (.ref cC_HostError)))
    (aC_BadClaim : PySem.W.nsIn K mainGlobals "BadClaim" = some (some (.ref cC_BadClaim)))
    (ex_HostError : PySem.W.subIn K (.ref cC_HostError) (.type "BaseException") = some true)
    (ty_HostError : PySem.W.typeIn K (.ref cC_HostError) = some (.type "type"))
    (hd_HostError : PySem.W.hasDictIn K cC_HostError = true)
    (ex_BadClaim : PySem.W.subIn K (.ref cC_BadClaim) (.type "BaseException") = some true)
    (ty_BadClaim : PySem.W.typeIn K (.ref cC_BadClaim) = some (.type "type"))
    (hd_BadClaim : PySem.W.hasDictIn K cC_BadClaim = true)
    (x0_BadClaim : PySem.W.excIn K cC_BadClaim [.type "ValueError", .type "Exception", .type "BaseException", .type "object"] "ValueError.__new__" = true)
    (ga_BadClaim : PySem.W.findIn K (.ref cC_BadClaim) "__getattribute__" = some (some (.builtin "BaseException.__getattribute__")))
    (gg_BadClaim : PySem.W.findIn K (.ref cC_BadClaim) "__getattr__" = some none)
    (ca_BadClaim : PySem.W.findIn K (.ref cC_BadClaim) "__class__" = some (some (.builtin "object.__class__")))
    (kp_BadClaim : PySem.W.keepIn K (.ref cC_BadClaim) = true)
    (mr_BadClaim : PySem.W.mroIn K cC_BadClaim (.type "object") = some true)
    (sub_BadClaim_HostError : PySem.W.subIn K (.ref cC_BadClaim) (.ref cC_HostError) = some true) (ne_BadClaim_HostError : (Value.ref cC_BadClaim == Value.ref cC_HostError) = false)
    (sub_BadClaim_BadClaim : PySem.W.subIn K (.ref cC_BadClaim) (.ref cC_BadClaim) = some true)
    (sub_BadClaim_VE : PySem.W.subIn K (.ref cC_BadClaim) (.type "ValueError") = some true)
    {ki_MOST_STEPS : Tok} (ai_MOST_STEPS : PySem.W.nsIn K mainGlobals "MOST_STEPS" = some (some (.int 2000 ki_MOST_STEPS)))
    : ∃ fd : FuncData, (∀ (s : Shared) (v : Value), BindsTo s fd ⟨[v], []⟩ [("script", v)]) ∧ ∀ base : Heap, K.In base → base.Ns mainGlobals mg → FnOk l.prog w K mg base CX0 7 fa fd ["script"] (sp_lawK K) := by
  have e := hfa.symm.trans (PySem.W.mg_of X G a8)
  cases e
  have T : Tp w K mg (⟨cC_HostError, cC_BadClaim⟩ : Cs) := ⟨PySem.W.mg_none_of X G z_bool, PySem.W.mg_none_of X G z_int, PySem.W.mg_none_of X G z_isinstance, PySem.W.mg_none_of X G z_len, PySem.W.mg_none_of X G z_list, PySem.W.mg_none_of X G z_range, PySem.W.mg_none_of X G z_str, PySem.W.mg_none_of X G z_tuple, PySem.W.mg_of X G aC_HostError, PySem.W.mg_of X G aC_BadClaim, x0_BadClaim, kp_BadClaim, ex_BadClaim, ty_BadClaim, ⟨ga_BadClaim, gg_BadClaim, ex_BadClaim, hd_BadClaim, ca_BadClaim, sp0, tk0, mr_BadClaim⟩, kit_two ne_BadClaim_HostError hd_HostError ty_HostError sub_BadClaim_HostError, PySem.W.exm_ref ex_HostError hd_HostError ty_HostError sub_BadClaim_HostError, kit_self, PySem.W.exm_ref ex_BadClaim hd_BadClaim ty_BadClaim sub_BadClaim_BadClaim, kit_ve sub_BadClaim_VE, ⟨_, PySem.W.mg_of X G ai_MOST_STEPS⟩⟩
  have F0 := fun_mk (st := s_narrow) l0 c0 k0
  have D_narrow : Def K mg "narrow" s_narrow ["first", "second"] := ⟨_, _, F0, PySem.W.mg_of X G a0, F0.binds (ps := ["first", "second"]) fun _ _ _ _ _ _ us hl => match us, hl with | [_, _], _ => rfl⟩
  have F1 := fun_mk (st := s__law_tape) l1 c1 k1
  have D__law_tape : Def K mg "_law_tape" s__law_tape ["script"] := ⟨_, _, F1, PySem.W.mg_of X G a1, F1.binds (ps := ["script"]) fun _ _ _ _ _ _ us hl => match us, hl with | [_], _ => rfl⟩
  have F2 := fun_mk (st := s__law_draw) l2 c2 k2
  have D__law_draw : Def K mg "_law_draw" s__law_draw ["tape", "at", "many"] := ⟨_, _, F2, PySem.W.mg_of X G a2, F2.binds (ps := ["tape", "at", "many"]) fun _ _ _ _ _ _ us hl => match us, hl with | [_, _, _], _ => rfl⟩
  have F3 := fun_mk (st := s__law_equal) l3 c3 k3
  have D__law_equal : Def K mg "_law_equal" s__law_equal ["actual", "due"] := ⟨_, _, F3, PySem.W.mg_of X G a3, F3.binds (ps := ["actual", "due"]) fun _ _ _ _ _ _ us hl => match us, hl with | [_, _], _ => rfl⟩
  have F4 := fun_mk (st := s__law_claims) l4 c4 k4
  have D__law_claims : Def K mg "_law_claims" s__law_claims ["tape", "count"] := ⟨_, _, F4, PySem.W.mg_of X G a4, F4.binds (ps := ["tape", "count"]) fun _ _ _ _ _ _ us hl => match us, hl with | [_, _], _ => rfl⟩
  have F5 := fun_mk (st := s__law_narrow) l5 c5 k5
  have D__law_narrow : Def K mg "_law_narrow" s__law_narrow ["first", "second"] := ⟨_, _, F5, PySem.W.mg_of X G a5, F5.binds (ps := ["first", "second"]) fun _ _ _ _ _ _ us hl => match us, hl with | [_, _], _ => rfl⟩
  have F6 := fun_mk (st := s__law_due) l6 c6 k6
  have D__law_due : Def K mg "_law_due" s__law_due ["first", "second"] := ⟨_, _, F6, PySem.W.mg_of X G a6, F6.binds (ps := ["first", "second"]) fun _ _ _ _ _ _ us hl => match us, hl with | [_, _], _ => rfl⟩
  have F7 := fun_mk (st := s__law_spoilt) l7 c7 k7
  have D__law_spoilt : Def K mg "_law_spoilt" s__law_spoilt ["tape", "pair"] := ⟨_, _, F7, PySem.W.mg_of X G a7, F7.binds (ps := ["tape", "pair"]) fun _ _ _ _ _ _ us hl => match us, hl with | [_, _], _ => rfl⟩
  have F8 := fun_mk (st := s_law) l8 c8 k8
  refine ⟨PySem.W.fnOf "law" "law" (defArgs s_law) (defBody s_law) (defScope s_law) .none kV8 dc8 pm8 an8 cd8 ct8, fun s v => .of_eq rfl, fun base _ _ => ?_⟩
  have C__law_tape : Cal l.prog w K mg base CX0 1 "_law_tape" (sp__law_tape K (⟨cC_HostError, cC_BadClaim⟩ : Cs)) := c__law_tape D__law_tape T 
  have C__law_draw : Cal l.prog w K mg base CX0 1 "_law_draw" (sp__law_draw K (⟨cC_HostError, cC_BadClaim⟩ : Cs)) := c__law_draw D__law_draw T 
  have C__law_claims : Cal l.prog w K mg base CX0 2 "_law_claims" (sp__law_claims K (⟨cC_HostError, cC_BadClaim⟩ : Cs)) := c__law_claims D__law_claims T C__law_draw
  have C__law_due : Cal l.prog w K mg base CX0 1 "_law_due" (sp__law_due K (⟨cC_HostError, cC_BadClaim⟩ : Cs)) := c__law_due D__law_due T 
  have C__law_equal : Cal l.prog w K mg base CX0 5 "_law_equal" (sp__law_equal K (⟨cC_HostError, cC_BadClaim⟩ : Cs) 3) := c__law_equal D__law_equal T  3
  have C_narrow : Cal l.prog w K mg base (L2.CX l.prog w) 1 "narrow" (sp_narrow K (⟨cC_HostError, cC_BadClaim⟩ : Cs)) := c_narrow D_narrow T 
  have C__law_narrow : Cal l.prog w K mg base CX0 2 "_law_narrow" (sp__law_narrow K (⟨cC_HostError, cC_BadClaim⟩ : Cs)) := c__law_narrow D__law_narrow T C_narrow
  have C__law_spoilt : Cal l.prog w K mg base CX0 6 "_law_spoilt" (sp__law_spoilt K (⟨cC_HostError, cC_BadClaim⟩ : Cs)) := c__law_spoilt D__law_spoilt T C__law_draw C__law_equal C__law_narrow
  exact c_law F8 T C__law_tape C__law_claims C__law_due C__law_draw C__law_spoilt C__law_equal C__law_narrow
theorem walk {l : PySem.W.OpenLaw} {q : Program} {loose : List Str} {XP : (Str → Option Value) → Heap → Prop} {YP : World → Heap → Prop} {d : DefRec} {K : Params → PySem.W.Frag} (hn : l.most = some 63) (hdf : d.params.defaults = [])
    (hY : ∀ (w : World) (h : Heap), YP w h → (K w.params).In h)
    (F : ∀ (w : World) (mg : Str → Option Value) (fa : Addr) (h : Heap), (K w.params).In h → h.Ns mainGlobals mg → mg d.name = some (.ref fa) →
      ∃ fd : FuncData, (∀ (s : Shared) (u : Value), BindsTo s fd ⟨[u], []⟩ [("script", u)]) ∧ ∀ base : Heap, (K w.params).In base → base.Ns mainGlobals mg → FnOk l.prog w (K w.params) mg base CX0 7 fa fd ["script"] (sp_lawK (K w.params))) :
    PySem.W.WalkO q loose XP YP l.row.toRowW d [] (fun f vs => PySem.call f vs) :=
  L2.walk_of (n := 63) (k := 7) (x := "script") (CX := fun _ => CX0) (sp := fun w => sp_lawK (K w.params)) hn (by decide) hdf ⟨rfl, by decide, by decide⟩ hY F (fun _ _ a ns hl _ hS => ⟨a, ns, rfl, hS, hl, fun _ => rfl⟩) fun _ _ _ _ _ z => z
end V
open PySem PySem.W PyProof.Rows
set_option maxRecDepth 100000 in
set_option maxHeartbeats 0 in
theorem PySem.Challenge.cw_wasmhost_k82_narrow_finds_where_claims_p_holds : PySem.Challenge.rw_wasmhost_k82_narrow_finds_where_claims_p.Holds := by
  w_on; o_law; k_head; (case hw => w_witness2)
  k_fill
  refine V.walk (l := PySem.Challenge.rw_wasmhost_k82_narrow_finds_where_claims_p) rfl rfl (fun w h Y => PySem.W.kIn_of Y) ?F
  case F =>
    intro w mg fa h KX G hmg
    refine' V.all_mk KX G hmg ?a0 ?l0 ?c0 ?k0 ?a1 ?l1 ?c1 ?k1 ?a2 ?l2 ?c2 ?k2 ?a3 ?l3 ?c3 ?k3 ?a4 ?l4 ?c4 ?k4 ?a5 ?l5 ?c5 ?k5 ?a6 ?l6 ?c6 ?k6 ?a7 ?l7 ?c7 ?k7 ?a8 ?l8 ?c8 ?k8 ?z_bool ?z_int ?z_isinstance ?z_len ?z_list ?z_range ?z_str ?z_tuple ?sp0 ?tk0 ?aC_HostError ?aC_BadClaim ?ex_HostError ?ty_HostError ?hd_HostError ?ex_BadClaim ?ty_BadClaim ?hd_BadClaim ?x0_BadClaim ?ga_BadClaim ?gg_BadClaim ?ca_BadClaim ?kp_BadClaim ?mr_BadClaim ?sub_BadClaim_HostError ?ne_BadClaim_HostError ?sub_BadClaim_BadClaim ?sub_BadClaim_VE ?ai_MOST_STEPS
    (case a0 => k_is)
    (case l0 => k_is)
    (case c0 => k_is)
    (case k0 => k_is)
    (case a1 => k_is)
    (case l1 => k_is)
    (case c1 => k_is)
    (case k1 => k_is)
    (case a2 => k_is)
    (case l2 => k_is)
    (case c2 => k_is)
    (case k2 => k_is)
    (case a3 => k_is)
    (case l3 => k_is)
    (case c3 => k_is)
    (case k3 => k_is)
    (case a4 => k_is)
    (case l4 => k_is)
    (case c4 => k_is)
    (case k4 => k_is)
    (case a5 => k_is)
    (case l5 => k_is)
    (case c5 => k_is)
    (case k5 => k_is)
    (case a6 => k_is)
    (case l6 => k_is)
    (case c6 => k_is)
    (case k6 => k_is)
    (case a7 => k_is)
    (case l7 => k_is)
    (case c7 => k_is)
    (case k7 => k_is)
    (case a8 => k_is)
    (case l8 => k_is)
    (case c8 => k_is)
    (case k8 => k_is)
    (case z_bool => k_is)
    (case z_int => k_is)
    (case z_isinstance => k_is)
    (case z_len => k_is)
    (case z_list => k_is)
    (case z_range => k_is)
    (case z_str => k_is)
    (case z_tuple => k_is)
    (case sp0 => k_is)
    (case tk0 => k_is)
    (case aC_HostError => k_is)
    (case aC_BadClaim => k_is)
    (case ex_HostError => k_is)
    (case ty_HostError => k_is)
    (case hd_HostError => k_is)
    (case ex_BadClaim => k_is)
    (case ty_BadClaim => k_is)
    (case hd_BadClaim => k_is)
    (case x0_BadClaim => first | k_exc | k_is)
    (case ga_BadClaim => k_is)
    (case gg_BadClaim => k_is)
    (case ca_BadClaim => k_is)
    (case kp_BadClaim => k_is)
    (case mr_BadClaim => k_is)
    (case sub_BadClaim_HostError => first | rfl | k_is)
    (case ne_BadClaim_HostError => decide)
    (case sub_BadClaim_BadClaim => first | rfl | k_is)
    (case sub_BadClaim_VE => first | rfl | k_is)
    (case ai_MOST_STEPS => k_is)
#print axioms PySem.Challenge.cw_wasmhost_k82_narrow_finds_where_claims_p_holds


