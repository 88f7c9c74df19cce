import PyProof.Rows.All
import Wide.All
import OpenK.AllK
import Wide.FinOn
import KE.KBits
import KE.BitLaws
import HandS.ForMost
import HandS.ForExc
import HandS.IsInst
import HandS.Wide
import HandS.WideBits
import HandS.WideMore
import HandS.Flow
import HandS.ExcInit
import HandS.Codes
import HandS.ExcField
import HandS.ExcIs
import KE.KExcIs
import KE.KIsAll
import HandS.More
import HandS.Dict
import HandS.DictComp
import HandS.CallLocal
import HandS.Text
import HandS.Conv
import HandS.Iter
import HandS.Style
import PyProof.EnumMake
import PyProof.EnumFor
import PyProof.Rows.SortShellAny
import PySem.Challenge.RW_wasmhost_k40_memory_is_an_array
set_option Elab.async false
set_option linter.all false
set_option maxRecDepth 100000
set_option maxHeartbeats 4000000
namespace V
open PySem PySem.Spec PyProof.Rows L2
/-! ### a def that may be called by its name -/
structure Cal (P : Program) (w : World) (K : PySem.W.Frag) (mg : Str → Option Value) (base : Heap) (C : CXT) (k : Nat) (x : Str) (sp : Sp) : Prop where
  ex : ∃ (f : Addr) (fd : FuncData) (ps : List Str), FnOk P w K mg base C k f fd ps sp ∧ mg x = some (.ref f) ∧ PySem.W.keepIn K (.ref f) = true ∧ Binds K fd ps []
section
variable {P : Program} {w : World} {K : PySem.W.Frag} {mg : Str → Option Value} {base : Heap} {k : Nat} {x : Str} {sp sp' : Sp} {C : CXT}
theorem Cal.mono (c : Cal P w K mg base C k x sp) {j : Nat} (h : k ≤ j) : Cal P w K mg base C j x sp := by
  obtain ⟨f, fd, ps, F, m, kp, b⟩ := c.ex
  exact ⟨f, fd, ps, F.mono h, m, kp, b⟩
theorem Cal.imp (c : Cal P w K mg base C k x sp) (h : ∀ vs H Q E, sp' vs H Q E → sp vs H Q E) : Cal P w K mg base C k x sp' := by
  obtain ⟨f, fd, ps, F, m, kp, b⟩ := c.ex
  exact ⟨f, fd, ps, F.imp h, m, kp, b⟩
/-- a def as the top leaves it -/
structure Def (K : PySem.W.Frag) (mg : Str → Option Value) (x : Str) (st : Stmt) (ps : List Str) : Prop where
  ex : ∃ (f : Addr) (fd : FuncData), L2.Fun K x x st f fd ∧ mg x = some (.ref f) ∧ Binds K fd ps []
theorem Def.ok {st : Stmt} {N ps : List Str} (D : Def K mg x st ps) (S : FnScope N ps (defScope st)) (len : ∀ vs H Q E, sp vs H Q E → vs.length = ps.length)
    (hbody : ∀ (f : Addr) (cdv : Value) (A : Around) (outer : List Env) (s : Shared) (H : Hp) (vs : List V) (Q : VK) (E : XK), Room k (A.deeper (envOfC x (defScope st) s.heap.objs.size f cdv)) → sp vs H Q E →
      ∃ t, PSs (cxOf CX0 P w K mg base N x (defScope st) f cdv A outer s H E).nox (defBody st) t ∧ t { nx := fun _ H' => Q .non H', rt := Q } (start N vs) H) : Cal P w K mg base CX0 (k + 1) x sp := by
  obtain ⟨f, fd, F, m, b⟩ := D.ex
  exact ⟨f, fd, ps, F.ok S len (hbody f), m, F.kp, b⟩
theorem Def.okX {st : Stmt} {N ps : List Str} (D : Def K mg x st ps) (S : FnScope N ps (defScope st)) (len : ∀ vs H Q E, sp vs H Q E → vs.length = ps.length)
    (hbody : ∀ (f : Addr) (cdv : Value) (A : Around) (outer : List Env) (s : Shared) (H : Hp) (vs : List V) (Q : VK) (E : XK), Room k (A.deeper (envOfC x (defScope st) s.heap.objs.size f cdv)) → sp vs H Q E →
      ∃ t, PSs (cxOf (L2.CX P w) P w K mg base N x (defScope st) f cdv A outer s H E) (defBody st) t ∧ t { nx := fun _ H' => Q .non H', rt := Q } (start N vs) H) : Cal P w K mg base (L2.CX P w) (k + 1) x sp := by
  obtain ⟨f, fd, F, m, b⟩ := D.ex
  exact ⟨f, fd, ps, F.okX S len (hbody f), m, F.kp, b⟩
end
section
variable {X : Cx} {k j : Nat} {x : Str} {sp : Sp} {p pos : Pos} {e : Expr} {es : List Expr} {t : TA} {C : CXT} {E : XK}
theorem pe_cE (c : Cal X.prog X.w X.K X.mg X.base C k x sp) (hr : Room j X.A) (hk : k ≤ j) (hx : Passes C X E) (hg : Gl X x) (ha : PA X (e :: es) t)
    (hdb : (x == ("__debug__" : Str)) = false := by decide) (he : starEach (e :: es) X.env = (false, eval e X.env) :: starEach es X.env := by rfl) (hpl : (backTo pos (starEach es X.env)).any (·.1) = false := by rfl) :
    PE X (.Call (.Name x p) (e :: es) [] pos) (tCall sp [] E t) := by
  obtain ⟨f, fd, ps, F, hm, kp, b⟩ := c.ex
  exact pe_call F (hr.mono hk) hg hm kp b .nil hx ha hdb he hpl
theorem pe_cE0 (c : Cal X.prog X.w X.K X.mg X.base C k x sp) (hr : Room j X.A) (hk : k ≤ j) (hx : Passes C X E) (hg : Gl X x)
    (hdb : (x == ("__debug__" : Str)) = false := by decide) : PE X (.Call (.Name x p) [] [] pos) (tCall sp [] E tNil) := by
  obtain ⟨f, fd, ps, F, hm, kp, b⟩ := c.ex
  exact pe_call0 F (hr.mono hk) hg hm kp b .nil hx hdb
/-- a def that lets nothing out -/
theorem pe_c (c : Cal X.prog X.w X.K X.mg X.base CX0 k x sp) (hr : Room j X.A) (hk : k ≤ j) (hg : Gl X x) (ha : PA X (e :: es) t)
    (hdb : (x == ("__debug__" : Str)) = false := by decide) (he : starEach (e :: es) X.env = (false, eval e X.env) :: starEach es X.env := by rfl) (hpl : (backTo pos (starEach es X.env)).any (·.1) = false := by rfl) :
    PE X (.Call (.Name x p) (e :: es) [] pos) (tCall sp [] E0 t) := pe_cE c hr hk pass0 hg ha hdb he hpl
theorem pe_c0 (c : Cal X.prog X.w X.K X.mg X.base CX0 k x sp) (hr : Room j X.A) (hk : k ≤ j) (hg : Gl X x)
    (hdb : (x == ("__debug__" : Str)) = false := by decide) : PE X (.Call (.Name x p) [] [] pos) (tCall sp [] E0 tNil) := pe_cE0 c hr hk pass0 hg hdb
end
section
variable {X : Cx} {k j : Nat} {x : Str} {sp : Sp} {p pos : Pos} {e : Expr} {es : List Expr} {t : TA} {C : CXT} {E : L2.St → XK}
/-- a call within a try -/
theorem pe_cS (c : Cal X.prog X.w X.K X.mg X.base C k x sp) (hr : Room j X.A) (hk : k ≤ j) (hg : Gl X x) (hx : ∀ σ, PassesAt C X σ (E σ)) (ha : PA X (e :: es) t)
    (hdb : (x == ("__debug__" : Str)) = false := by decide) (he : starEach (e :: es) X.env = (false, eval e X.env) :: starEach es X.env := by rfl) (hpl : (backTo pos (starEach es X.env)).any (·.1) = false := by rfl) : PE X (.Call (.Name x p) (e :: es) [] pos) (tCallS sp E t) := by
  obtain ⟨f, fd, ps, F, hm, kp, b⟩ := c.ex
  exact pe_callS F (hr.mono hk) hg hm kp b hx ha hdb he hpl
end
theorem hu64 {A : Around} {k : Nat} (hr : Room k A) : A.units + 64 < cLine := by have := hr.un; omega
/-! ### numbers -/
theorem small64 {n : Nat} (h : n ≤ 1000000) : n ≤ sizeLine := Nat.le_trans h (by decide)
theorem small64' {n : Nat} (h : n ≤ 1000000) : n < sizeLine := Nat.lt_of_le_of_lt h (by decide)
theorem shl1 {j : Int} (h : 0 ≤ j) (h2 : j ≤ 100000) : CShl 1 j := by
  obtain ⟨n, rfl⟩ := Int.eq_ofNat_of_zero_le h
  exact shl_ok (n := 1) (by decide) (by omega)
theorem shlN {i j : Int} (hi : i.natAbs < 2 ^ 1000) (h : 0 ≤ j) (h2 : j ≤ 100000) : CShl i j := by
  obtain ⟨n, rfl⟩ := Int.eq_ofNat_of_zero_le h
  exact shl_ok (n := 1000) hi (by omega)
theorem pow_pos2 (k : Nat) : (0 : Int) < 2 ^ k := PySem.W.kbt_pos k
/-! ### heaps -/
theorem Same.new {H : Hp} {p : Addr} {o : HO} (h : H p = none) : Same H (upd H p o) := fun b x e => by
  rw [upd_ne (ne_of_none e h)]; exact e
theorem SqL.new {K : PySem.W.Frag} {H : Hp} {p : Addr} {xs : List V} : SqL K (upd H p (.lst xs)) p xs := .inl (.inl upd_same)
theorem SqT.new {K : PySem.W.Frag} {H : Hp} {p : Addr} {xs : List V} : SqT K (upd H p (.tup xs)) p xs := .inl (.inl upd_same)

/-! ### operators in the words that the readings like -/
section
variable {X : Cx}
/-- i << j, i of a usual size -/
theorem op_shlS : OpR X (binaryOp .LShift) (fun x y H Q => ∃ i j : Int, x = .int i ∧ y = .int j ∧ (i.natAbs < 2 ^ 1000 ∧ 0 ≤ j ∧ j ≤ 100000) ∧ Q (.int (i * 2 ^ j.toNat)) H) := by
  intro pins s σ H x y v u Q I rx ry h
  obtain ⟨i, j, rfl, rfl, ⟨c0, c1, c2⟩, q⟩ := h
  exact op_shlW pins s σ H _ _ v u Q I rx ry ⟨i, j, rfl, rfl, shlN c0 c1 c2, q⟩
theorem nat_small {i : Int} (h : i.natAbs ≤ 18446744073709551616) : i.natAbs < 2 ^ 1000 := Nat.lt_of_le_of_lt h (by decide +kernel)
/-- 1 << j -/
theorem op_shl1 : OpR X (binaryOp .LShift) (fun x y H Q => ∃ j : Int, x = .int 1 ∧ y = .int j ∧ (0 ≤ j ∧ j ≤ 100000) ∧ Q (.int (2 ^ j.toNat)) H) := by
  intro pins s σ H x y v u Q I rx ry h
  obtain ⟨j, rfl, rfl, ⟨c1, c2⟩, q⟩ := h
  refine op_shlW pins s σ H _ _ v u Q I rx ry ⟨1, j, rfl, rfl, shl1 c1 c2, ?_⟩
  show Q (.int (1 * 2 ^ j.toNat)) H
  rw [Int.one_mul]; exact q
end
/-- isinstance(x, T) of a value of a type of its own -/
theorem isi_int {K : PySem.W.Frag} {H : Hp} {i : Int} {Q : VK} (q : Q (.bl true) H) : rIsi K [.int i, .ty "int"] H Q := ⟨.int i, .ty "int", _, _, true, rfl, .ty _, .base (.int _), kit_ty (by decide +kernel), q⟩
theorem isi_int_bool {K : PySem.W.Frag} {H : Hp} {i : Int} {Q : VK} (q : Q (.bl false) H) : rIsi K [.int i, .ty "bool"] H Q := ⟨.int i, .ty "bool", _, _, false, rfl, .ty _, .base (.int _), kit_ty (by decide +kernel), q⟩
theorem isi_list {K : PySem.W.Frag} {H : Hp} {a : Addr} {xs : List V} {Q : VK} (h : H a = some (.lst xs)) (q : Q (.bl true) H) : rIsi K [.ref a, .ty "list"] H Q := ⟨.ref a, .ty "list", _, _, true, rfl, .ty _, .base (.lst h), kit_ty (by decide +kernel), q⟩
theorem isi_tup {K : PySem.W.Frag} {H : Hp} {a : Addr} {xs : List V} {Q : VK} (h : H a = some (.tup xs)) (q : Q (.bl true) H) : rIsi K [.ref a, .ty "tuple"] H Q := ⟨.ref a, .ty "tuple", _, _, true, rfl, .ty _, .base (.tup h), kit_ty (by decide +kernel), q⟩
theorem isi_str {K : PySem.W.Frag} {H : Hp} {z : Str} {Q : VK} (q : Q (.bl true) H) : rIsi K [.str z, .ty "str"] H Q := ⟨.str z, .ty "str", _, _, true, rfl, .ty _, .base (.str _), kit_ty (by decide +kernel), q⟩
/-! ### lists of ints -/
theorem at_ints {ns : List Int} {k : Nat} (h : k < ns.length) : atI (ns.map V.int) (k : Int) = some (.int (ns.getD k 0)) := atI_nat (by
  rw [List.getElem?_map, List.getElem?_eq_getElem h, List.getD_eq_getElem?_getD, List.getElem?_eq_getElem h]; rfl)
theorem cut_to (xs : List V) (k : Nat) : cutV xs none (some (k : Int)) = xs.take k := by
  unfold cutV
  rw [HT.sIx_nat, HT.sIx_none, List.drop_zero, Nat.sub_zero]
  rcases Nat.le_total k xs.length with h | h
  · rw [Nat.min_eq_left h]
  · rw [Nat.min_eq_right h, List.take_length, List.take_of_length_le h]
theorem cut_from (xs : List V) (k : Nat) : cutV xs (some (k : Int)) none = xs.drop k := by
  unfold cutV
  rw [HT.sIx_nat, HT.sIx_none]
  rcases Nat.le_total k xs.length with h | h
  · rw [Nat.min_eq_left h]; exact List.take_of_length_le (by rw [List.length_drop]; exact Nat.le_refl _)
  · rw [Nat.min_eq_right h, Nat.sub_self, List.take_zero, List.drop_eq_nil_of_le h]
/-! ### a reading, gone through as far as it goes by sight -/
local macro_rules | `(tactic| walk_at "side") => `(tactic| first
  | (show _ = _; rfl)
  | (show (0 : Int) < _; first | omega | exact pow_pos2 _)
  | (show (0 : Int) ≤ _; omega)
  | (show (0 : Int) ≤ _ ∧ _; constructor <;> omega)
  | (show (0 : Int) < _ ∧ _; constructor <;> omega)
  | (show (_ < _ ∧ _ < _) ∨ (_ < _ ∧ _ < _); first | exact .inl ⟨by omega, by omega⟩ | exact .inr ⟨by omega, by omega⟩))
local macro_rules | `(tactic| walk_at "loop") => `(tactic| (show ∃ W : (Nat → Nat → L2.St → Hp → Prop), _))
local macro_rules | `(tactic| walk_at "go1") => `(tactic| (fail_if_success walk_at "loop"); first
  | refine And.intro (show (_ : Int) ≤ _ by omega) ?_
  | refine ⟨_, rfl, ?_⟩
  | refine ⟨_, _, rfl, rfl, ?_⟩
  | refine ⟨_, rfl, rfl, ?_⟩
  | refine .inl ⟨_, rfl, ?_⟩
  | refine ⟨_, .ty "int", _, _, true, rfl, .ty _, .base (.int _), kit_ty (by decide +kernel), ?_⟩
  | refine ⟨_, .ty "bool", _, _, false, rfl, .ty _, .base (.int _), kit_ty (by decide +kernel), ?_⟩
  | refine ⟨_, .ty "bool", _, _, false, rfl, .ty _, .base (.str _), kit_ty (by decide +kernel), ?_⟩
  | refine ⟨_, .ty "str", _, _, true, rfl, .ty _, .base (.str _), kit_ty (by decide +kernel), ?_⟩
  | refine ⟨_, .ty "list", _, _, true, rfl, .ty _, .base (.lst (by assumption)), kit_ty (by decide +kernel), ?_⟩
  | refine ⟨_, .ty "tuple", _, _, true, rfl, .ty _, .base (.tup (by assumption)), kit_ty (by decide +kernel), ?_⟩
  | refine ⟨_, _, rfl, .inl (by assumption), ?_⟩
  | refine ⟨_, _, rfl, .inr (by assumption), ?_⟩
  | refine ⟨_, _, rfl, ?_⟩
  | refine ⟨_, _, _, _, rfl, rfl, by assumption, at_ints (by omega), ?_⟩
  | refine ⟨_, _, _, _, rfl, rfl, by assumption, rfl, ?_⟩
  | refine iteF ?_
  | refine iteT ?_
  | refine iteNS rfl ?_
  | (refine And.intro ?h1 ?h2; case h1 => first
    | walk_at "side"
    | assumption
    | (show (_ : Nat) ≤ _; omega)
    | (show (_ : Int) ≤ _; omega)
    | (show (_ : Int) < _; omega)
    | (show 0 ≤ sizeLine; decide)
    | (show 1 ≤ sizeLine; decide)
    | (show 2 ≤ sizeLine; decide)
    | (show 3 ≤ sizeLine; decide)
    | (show 4 ≤ sizeLine; decide)
    | (show (_ : Nat) ≤ _; decide)))
local macro_rules | `(tactic| walk_at "go") => `(tactic| repeat walk_at "go1")
/-! ### tests that read alone, loops -/
theorem tor_b {t u : TT} {σ : L2.St} {H : Hp} {Q : Bool → Hp → Prop} (b1 b2 : Bool) (h1 : ∀ Q, Q b1 H → t σ H Q) (h2 : ∀ Q, Q b2 H → u σ H Q) (q : Q (b1 || b2) H) : tOr t u σ H Q := by
  refine h1 _ ?_
  cases b1 with
  | true => rw [if_pos rfl]; exact q
  | false => rw [if_neg (by decide)]; exact h2 _ q
theorem tand_b {t u : TT} {σ : L2.St} {H : Hp} {Q : Bool → Hp → Prop} (b1 b2 : Bool) (h1 : ∀ Q, Q b1 H → t σ H Q) (h2 : ∀ Q, Q b2 H → u σ H Q) (q : Q (b1 && b2) H) : tAnd t u σ H Q := by
  refine h1 _ ?_
  cases b1 with
  | true => rw [if_pos rfl]; exact h2 _ q
  | false => rw [if_neg (by decide)]; exact q
theorem while_ev {c : TT} {tb : TS} {D : Ends} {σ : L2.St} {H : Hp} (Pv : L2.St → Hp → Prop) (μ : L2.St → Hp → Nat) (h0 : Pv σ H)
    (hs : ∀ σ H, Pv σ H → ∃ b : Bool, (∀ Q, Q b H → c σ H Q) ∧ (b = true → tb { D with nx := fun σ' H' => Pv σ' H' ∧ μ σ' H' < μ σ H, ct := fun σ' H' => Pv σ' H' ∧ μ σ' H' < μ σ H, bk := D.nx } σ H) ∧ (b = false → D.nx σ H)) : tWhile c tb D σ H := by
  refine ⟨fun m σ H => m = μ σ H ∧ Pv σ H, ⟨_, rfl, h0⟩, ?_⟩
  rintro m σ H ⟨rfl, p⟩
  obtain ⟨b, h1, h2, h3⟩ := hs σ H p
  refine h1 _ ?_
  cases b with
  | true => exact ⟨_, fun σ' H' ⟨p', l⟩ => ⟨_, l, rfl, p'⟩, h2 rfl⟩
  | false => exact h3 rfl
/-- the loops' bookkeeping, with what follows and what returns told apart -/
theorem for_listD {K : PySem.W.Frag} {a : Addr} {xs : List V} {g : TG} {tb : TS} {nx : L2.St → Hp → Prop} {rt : VK} {σ : L2.St} {H : Hp} (Pv : Nat → L2.St → Hp → Prop) (h0 : Pv 0 σ H) (hl : ∀ i σ H, i ≤ xs.length → Pv i σ H → SqL K H a xs)
    (hs : ∀ i x σ H, xs[i]? = some x → Pv i σ H → g x σ H fun σ2 H2 => tb { nx := Pv (i + 1), rt := rt, bk := nx, ct := Pv (i + 1) } σ2 H2) (hd : ∀ σ H, Pv xs.length σ H → nx σ H) :
    ∃ W : Nat → Nat → L2.St → Hp → Prop, (∃ m, W 0 m σ H) ∧ ∀ i m σ H, W i m σ H → ((Itl K a).stop i H ∧ nx σ H) ∨ ((Itl K a).go i H ∧ ∃ N : L2.St → Hp → Prop, (∀ σ' H', N σ' H' → ∃ m', m' < m ∧ W (i + 1) m' σ' H') ∧
      ∀ x H', (Itl K a).yld i H x H' → g x σ H' fun σ2 H2 => tb { nx := N, rt := rt, bk := nx, ct := N } σ2 H2) := for_list (D := { nx := nx, rt := rt }) Pv h0 hl hs hd
theorem for_rangeD {lo : Int} {n : Nat} {g : TG} {tb : TS} {nx : L2.St → Hp → Prop} {rt : VK} {σ : L2.St} {H : Hp} (Pv : Nat → L2.St → Hp → Prop) (h0 : Pv 0 σ H)
    (hs : ∀ i σ H, i < n → Pv i σ H → g (.int (lo + i)) σ H fun σ2 H2 => tb { nx := Pv (i + 1), rt := rt, bk := nx, ct := Pv (i + 1) } σ2 H2) (hd : ∀ σ H, Pv n σ H → nx σ H) :
    ∃ W : Nat → Nat → L2.St → Hp → Prop, (∃ m, W 0 m σ H) ∧ ∀ i m σ H, W i m σ H → ((Itr lo n).stop i H ∧ nx σ H) ∨ ((Itr lo n).go i H ∧ ∃ N : L2.St → Hp → Prop, (∀ σ' H', N σ' H' → ∃ m', m' < m ∧ W (i + 1) m' σ' H') ∧
      ∀ x H', (Itr lo n).yld i H x H' → g x σ H' fun σ2 H2 => tb { nx := N, rt := rt, bk := nx, ct := N } σ2 H2) := for_range (D := { nx := nx, rt := rt }) Pv h0 hs hd
/-! ### a comprehension that makes f of each item -/
theorem lc_map {K : PySem.W.Frag} {a : Addr} {xs : List V} {j : Nat} {te : TE} {σ : L2.St} {H1 : Hp} {D : Addr} {Qd : Hp → Prop} (f : V → V) (hD : H1 D = none) (hS : SqL K H1 a xs) (hn : xs.length ≤ 100000)
    (hs : ∀ x H Q, x ∈ xs → Same H1 H → (∀ H', Same H H' → Q (f x) H') → te ((σ.set j none).set j (some x)) H Q) (hd : ∀ H, Same H1 H → H D = some (.lst (xs.map f)) → Qd H) :
    ∃ W : Nat → Nat → Hp → Prop, (∃ m, W 0 m (upd H1 D (.lst []))) ∧ ∀ i m H, W i m H →
      ((Itl K a).stop i H ∧ Qd H) ∨ ((Itl K a).go i H ∧ ∃ Nx : Hp → Prop, (∀ H', Nx H' → ∃ m', m' < m ∧ W (i + 1) m' H') ∧ ∀ x H', (Itl K a).yld i H x H' → gName j x (wipe σ [j]) H' fun σ2 H2 => wipe σ2 [j] = wipe σ [j] ∧ tYes σ2 H2 fun b H3 =>
        if b = true then te σ2 H3 fun y H4 => ∃ acc, H4 D = some (.lst acc) ∧ acc.length < sizeLine ∧ Nx (upd H4 D (.lst (acc ++ [y]))) else Nx H3) := by
  refine lc_list (xs := xs) (fun i H => Same H1 H ∧ H D = some (.lst ((xs.take i).map f))) ⟨Same.new hD, by rw [upd_same]; rfl⟩ (fun i H _ h => h.1.seq hS) (fun i x H hx h => ?_) (fun H h => hd H h.1 (by rw [List.take_length] at h; exact h.2))
  have hi : i < xs.length := (List.getElem?_eq_some_iff.mp hx).1
  refine ⟨?_, ?_⟩
  · show (((σ.set j none).set j (some x)).set j none) = σ.set j none
    rw [List.set_set, List.set_set]
  · simp only [tYes, if_true]
    refine hs x H _ (List.mem_of_getElem? hx) h.1 fun H' s' => ?_
    refine ⟨_, s' _ _ h.2, ?_, fun b o e => ?_, ?_⟩
    · rw [List.length_map, List.length_take]; exact small64' (by omega)
    · have nb : b ≠ D := fun z => by rw [z, hD] at e; cases e
      rw [upd_ne nb]; exact s' _ _ (h.1 _ _ e)
    · rw [upd_same, List.take_add_one, hx, List.map_append]; rfl

/-! ### methods and makers of own classes -/
structure DefM (K : PySem.W.Frag) (C : Addr) (m qual : Str) (st : Stmt) (ps : List Str) : Prop where
  ex : ∃ (f : Addr) (fd : FuncData), L2.Fun K m qual st f fd ∧ Meth K C m f ∧ Binds K fd ps []
structure DefI (K : PySem.W.Frag) (C : Addr) (qual : Str) (st : Stmt) (ps : List Str) : Prop where
  ex : ∃ (f : Addr) (fd : FuncData), L2.Fun K "__init__" qual st f fd ∧ Mk K C f ∧ Binds K fd ps []
structure CalM (P : Program) (w : World) (K : PySem.W.Frag) (mg : Str → Option Value) (base : Heap) (CX : CXT) (C : Addr) (k : Nat) (m : Str) (sp : Sp) : Prop where
  ex : ∃ (f : Addr) (fd : FuncData) (ps : List Str), FnOk P w K mg base CX k f fd ps sp ∧ Cls K C ∧ Meth K C m f ∧ Binds K fd ps []
structure CalI (P : Program) (w : World) (K : PySem.W.Frag) (mg : Str → Option Value) (base : Heap) (CX : CXT) (C : Addr) (k : Nat) (sp : Sp) : Prop where
  ex : ∃ (f : Addr) (fd : FuncData) (ps : List Str), FnOk P w K mg base CX k f fd ps sp ∧ Mk K C f ∧ Binds K fd ps []
section
variable {P : Program} {w : World} {K : PySem.W.Frag} {mg : Str → Option Value} {base : Heap} {k : Nat} {x m qual : Str} {sp sp' : Sp} {C : Addr}
theorem Def.none {st : Stmt} {N ps : List Str} (D : Def K mg x st ps) (S : FnScope N ps (defScope st)) : Cal P w K mg base CX0 (k + 1) x (fun _ _ _ _ => False) := D.ok S (fun _ _ _ _ h => h.elim) (fun _ _ _ _ _ _ _ _ _ _ h => h.elim)
theorem Def.noneX {st : Stmt} {N ps : List Str} (D : Def K mg x st ps) (S : FnScope N ps (defScope st)) : Cal P w K mg base (L2.CX P w) (k + 1) x (fun _ _ _ _ => False) := D.okX S (fun _ _ _ _ h => h.elim) (fun _ _ _ _ _ _ _ _ _ _ h => h.elim)
theorem DefM.ok {st : Stmt} {N ps : List Str} (D : DefM K C m qual st ps) (S : FnScope N ps (defScope st)) (cl : Cls K C) (len : ∀ vs H Q E, sp vs H Q E → vs.length = ps.length)
    (hbody : ∀ (f : Addr) (cdv : Value) (A : Around) (outer : List Env) (s : Shared) (H : Hp) (vs : List V) (Q : VK) (E : XK), Room k (A.deeper (envOfC qual (defScope st) s.heap.objs.size f cdv)) → sp vs H Q E →
      ∃ t, PSs (cxOf CX0 P w K mg base N qual (defScope st) f cdv A outer s H E).nox (defBody st) t ∧ t { nx := fun _ H' => Q .non H', rt := Q } (start N vs) H) : CalM P w K mg base CX0 C (k + 1) m sp := by
  obtain ⟨f, fd, F, mm, b⟩ := D.ex
  exact ⟨f, fd, ps, F.ok S len (hbody f), cl, mm, b⟩
theorem DefM.okX {st : Stmt} {N ps : List Str} (D : DefM K C m qual st ps) (S : FnScope N ps (defScope st)) (cl : Cls K C) (len : ∀ vs H Q E, sp vs H Q E → vs.length = ps.length)
    (hbody : ∀ (f : Addr) (cdv : Value) (A : Around) (outer : List Env) (s : Shared) (H : Hp) (vs : List V) (Q : VK) (E : XK), Room k (A.deeper (envOfC qual (defScope st) s.heap.objs.size f cdv)) → sp vs H Q E →
      ∃ t, PSs (cxOf (L2.CX P w) P w K mg base N qual (defScope st) f cdv A outer s H E) (defBody st) t ∧ t { nx := fun _ H' => Q .non H', rt := Q } (start N vs) H) : CalM P w K mg base (L2.CX P w) C (k + 1) m sp := by
  obtain ⟨f, fd, F, mm, b⟩ := D.ex
  exact ⟨f, fd, ps, F.okX S len (hbody f), cl, mm, b⟩
theorem DefI.ok {st : Stmt} {N ps : List Str} (D : DefI K C qual st ps) (S : FnScope N ps (defScope st)) (len : ∀ vs H Q E, sp vs H Q E → vs.length = ps.length)
    (hbody : ∀ (f : Addr) (cdv : Value) (A : Around) (outer : List Env) (s : Shared) (H : Hp) (vs : List V) (Q : VK) (E : XK), Room k (A.deeper (envOfC qual (defScope st) s.heap.objs.size f cdv)) → sp vs H Q E →
      ∃ t, PSs (cxOf CX0 P w K mg base N qual (defScope st) f cdv A outer s H E).nox (defBody st) t ∧ t { nx := fun _ H' => Q .non H', rt := Q } (start N vs) H) : CalI P w K mg base CX0 C (k + 1) sp := by
  obtain ⟨f, fd, F, mm, b⟩ := D.ex
  exact ⟨f, fd, ps, F.ok S len (hbody f), mm, b⟩
end
section
variable {X : Cx} {k j : Nat} {x m : Str} {sp : Sp} {p pos apos : Pos} {o e : Expr} {es : List Expr} {ta : TE} {t : TA} {CX : CXT} {E : XK} {C : Addr}
theorem pe_mE {pl : Sem Bool} (c : CalM X.prog X.w X.K X.mg X.base CX C k m sp) (hr : Room j X.A) (hk : k ≤ j) (hx : Passes CX X E) (he : PE X o ta) (ha : PA X (e :: es) t)
    (hst : starEach (e :: es) X.env = (false, eval e X.env) :: starEach es X.env := by rfl) (hpl : (backTo pos (starEach es X.env)).any (·.1) = false := by rfl)
    (ht : eval (.Call (.Attribute o m apos) (e :: es) [] pos) X.env = (do
      let ov ← eval o X.env
      standAt apos.atName
      let (f, first) ← holding [ov] (getMethod ov m pl)
      callWith pos f first (backTo pos (starEach (e :: es) X.env)) (backToKw pos (keywordEach [] X.env))) := by rfl) :
    PE X (.Call (.Attribute o m apos) (e :: es) [] pos) (tMeth C m sp [] E ta t) := by
  obtain ⟨f, fd, ps, F, cl, mm, b⟩ := c.ex
  exact pe_meth (pl := pl) he cl mm F (hr.mono hk) b .nil hx ha hst hpl ht
theorem pe_mE0 {pl : Sem Bool} (c : CalM X.prog X.w X.K X.mg X.base CX C k m sp) (hr : Room j X.A) (hk : k ≤ j) (hx : Passes CX X E) (he : PE X o ta)
    (ht : eval (.Call (.Attribute o m apos) [] [] pos) X.env = (do
      let ov ← eval o X.env
      standAt apos.atName
      let (f, first) ← holding [ov] (getMethod ov m pl)
      callWith pos f first (backTo pos (starEach [] X.env)) (backToKw pos (keywordEach [] X.env))) := by rfl) :
    PE X (.Call (.Attribute o m apos) [] [] pos) (tMeth C m sp [] E ta tNil) := by
  obtain ⟨f, fd, ps, F, cl, mm, b⟩ := c.ex
  exact pe_meth0 (pl := pl) he cl mm F (hr.mono hk) b .nil hx ht
theorem pe_nw (c : CalI X.prog X.w X.K X.mg X.base CX0 C k sp) (hr : Room j X.A) (hk : k + 1 ≤ j) (hg : Gl X x) (hm : X.mg x = some (.ref C)) (ha : PA X (e :: es) t)
    (hdb : (x == ("__debug__" : Str)) = false := by decide) (he : starEach (e :: es) X.env = (false, eval e X.env) :: starEach es X.env := by rfl) (hpl : (backTo pos (starEach es X.env)).any (·.1) = false := by rfl) :
    PE X (.Call (.Name x p) (e :: es) [] pos) (tMake C sp [] E0 t) := by
  obtain ⟨f, fd, ps, F, mm, b⟩ := c.ex
  exact pe_make mm F (hr.mono hk) hg hm b .nil pass0 ha hdb he hpl
theorem pe_nw0 (c : CalI X.prog X.w X.K X.mg X.base CX0 C k sp) (hr : Room j X.A) (hk : k + 1 ≤ j) (hg : Gl X x) (hm : X.mg x = some (.ref C))
    (hdb : (x == ("__debug__" : Str)) = false := by decide) : PE X (.Call (.Name x p) [] [] pos) (tMake C sp [] E0 tNil) := by
  obtain ⟨f, fd, ps, F, mm, b⟩ := c.ex
  exact pe_make0 mm F (hr.mono hk) hg hm b .nil pass0 hdb
end
/-- the heap behind a change of some objects: all others stand -/
def SameBut (ps : List Addr) (H H' : Hp) : Prop := ∀ b o, b ∉ ps → H b = some o → H' b = some o
theorem Same.but {ps : List Addr} {H H' : Hp} (s : Same H H') : SameBut ps H H' := fun b o _ e => s b o e
theorem SameBut.refl {ps : List Addr} (H : Hp) : SameBut ps H H := fun _ _ _ e => e
theorem SameBut.trans {ps : List Addr} {H1 H2 H3 : Hp} (a : SameBut ps H1 H2) (b : SameBut ps H2 H3) : SameBut ps H1 H3 := fun c o n e => b c o n (a c o n e)
theorem SameBut.upd {ps : List Addr} {H H' : Hp} {a : Addr} {o : HO} (s : SameBut ps H H') (h : a ∈ ps) : SameBut ps H (upd H' a o) := fun b x n e => by
  have nb : b ≠ a := fun z => n (z ▸ h)
  rw [upd_ne nb]; exact s b x n e
theorem lk_hd {k : Str} {v : V} {r : List (Str × V)} : ((k, v) :: r).lookup k = some v := by
  simp [List.lookup]
theorem lk_tl {k a : Str} {v : V} {r : List (Str × V)} (h : ¬ k = a) : ((a, v) :: r).lookup k = r.lookup k := by
  show (match k == a with | true => some v | false => r.lookup k) = _
  rw [beq_eq_false_iff_ne.mpr h]
theorem pt_hd {k : Str} {v x : V} {r : List (Str × V)} : putF k v ((k, x) :: r) = (k, v) :: r := if_pos rfl
theorem pt_tl {k a : Str} {v x : V} {r s : List (Str × V)} (h : ¬ a = k) (e : putF k v r = s) : putF k v ((a, x) :: r) = (a, x) :: s := (if_neg h).trans (congrArg _ e)
theorem pt_nl {k : Str} {v : V} : putF k v [] = [(k, v)] := rfl
theorem made_same {H H2 : Hp} {x dx C : Addr} (nx : H x = none) (nd : H dx = none) (s : SameBut [x] (upd (upd H dx (.own x)) x (.ins C dx [])) H2) : Same H H2 := fun b o e => by
  have n1 : b ≠ x := ne_of_none e nx
  have n2 : b ≠ dx := ne_of_none e nd
  exact s b o (fun z => n1 (List.mem_singleton.mp z)) (by rw [upd_ne n1, upd_ne n2]; exact e)
theorem SameBut.new {ps : List Addr} {H H3 H4 : Hp} {t : Addr} (b3 : SameBut ps H H3) (b4 : SameBut [t] H3 H4) (h : H t = none) : SameBut ps H H4 := fun c o n e =>
  b4 c o (fun z => by rw [List.mem_singleton.mp z, h] at e; cases e) (b3 c o n e)
theorem Same.of_but {ps : List Addr} {H H1 H2 : Hp} (s : Same H H1) (b : SameBut ps H1 H2) (h : ∀ a ∈ ps, H a = none) : Same H H2 := fun c o e =>
  b c o (fun z => by rw [h c z] at e; cases e) (s c o e)
theorem SameBut.mono {ps qs : List Addr} {H H' : Hp} (s : SameBut ps H H') (h : ∀ a ∈ ps, a ∈ qs) : SameBut qs H H' := fun b o n e => s b o (fun z => n (h b z)) e

/-! ### the text by places -/
def top (i : Nat) : Stmt := PySem.Challenge.pw_wasmhost_k40_memory_is_an_array.main.body.getD i (.Pass ⟨0, 0, 0, 0⟩)
abbrev s__law_tape : Stmt := top 4
abbrev s__law_draw : Stmt := top 5
abbrev s__law_is_int : Stmt := top 6
abbrev s__law_same_ints : Stmt := top 7
abbrev s__law_place : Stmt := top 8
abbrev s__law_byte : Stmt := top 9
abbrev s__law_window : Stmt := top 10
abbrev s_law : Stmt := top 11
abbrev s_Memory___init__ : Stmt := inClass (top 2) 0
abbrev s_Memory_size : Stmt := inClass (top 2) 1
abbrev s_Memory_read : Stmt := inClass (top 2) 2
abbrev s_Memory_write : Stmt := inClass (top 2) 3
theorem sc__law_tape : FnScope ["script", "tape", "cell", "number", "k", "first"] ["script"] (defScope s__law_tape) := ⟨rfl, rfl, rfl, by decide +kernel, rfl, by decide +kernel, by decide +kernel⟩
theorem sc__law_draw : FnScope ["tape", "at", "many", "number"] ["tape", "at", "many"] (defScope s__law_draw) := ⟨rfl, rfl, rfl, by decide +kernel, rfl, by decide +kernel, by decide +kernel⟩
theorem sc__law_is_int : FnScope ["actual"] ["actual"] (defScope s__law_is_int) := ⟨rfl, rfl, rfl, by decide +kernel, rfl, by decide +kernel, by decide +kernel⟩
theorem sc__law_same_ints : FnScope ["actual", "due", "k"] ["actual", "due"] (defScope s__law_same_ints) := ⟨rfl, rfl, rfl, by decide +kernel, rfl, by decide +kernel, by decide +kernel⟩
theorem sc__law_place : FnScope ["tape", "at", "most", "last", "pick"] ["tape", "at", "most", "last"] (defScope s__law_place) := ⟨rfl, rfl, rfl, by decide +kernel, rfl, by decide +kernel, by decide +kernel⟩
theorem sc__law_byte : FnScope ["tape", "at", "number"] ["tape", "at"] (defScope s__law_byte) := ⟨rfl, rfl, rfl, by decide +kernel, rfl, by decide +kernel, by decide +kernel⟩
theorem sc__law_window : FnScope ["memory", "model", "at", "count", "size", "first", "last", "actual", "due", "place"] ["memory", "model", "at", "count", "size"] (defScope s__law_window) := ⟨rfl, rfl, rfl, by decide +kernel, rfl, by decide +kernel, by decide +kernel⟩
theorem sc_law : FnScope ["script", "tape", "pages", "memories", "sizes", "models", "last", "k", "j", "base", "which", "size", "count", "data", "passed", "model", "due", "place", "at"] ["script"] (defScope s_law) := ⟨rfl, rfl, rfl, by decide +kernel, rfl, by decide +kernel, by decide +kernel⟩
theorem sc_Memory___init__ : FnScope ["self", "pages", "most"] ["self", "pages", "most"] (defScope s_Memory___init__) := ⟨rfl, rfl, rfl, by decide +kernel, rfl, by decide +kernel, by decide +kernel⟩
theorem sc_Memory_size : FnScope ["self"] ["self"] (defScope s_Memory_size) := ⟨rfl, rfl, rfl, by decide +kernel, rfl, by decide +kernel, by decide +kernel⟩
theorem sc_Memory_read : FnScope ["self", "at", "count", "place"] ["self", "at", "count"] (defScope s_Memory_read) := ⟨rfl, rfl, rfl, by decide +kernel, rfl, by decide +kernel, by decide +kernel⟩
theorem sc_Memory_write : FnScope ["self", "at", "data", "place", "byte"] ["self", "at", "data"] (defScope s_Memory_write) := ⟨rfl, rfl, rfl, by decide +kernel, rfl, by decide +kernel, by decide +kernel⟩
/-- where the own classes stand -/
structure Cs where
  C_Memory : Addr
/-! the attributes of an object of Memory -/
def fs_Memory (x0 x1 x2 : V) : List (Str × V) := [("pages", x0), ("most", x1), ("cells", x2)]
theorem lk_Memory_pages {x0 x1 x2 : V} : (fs_Memory x0 x1 x2).lookup ("pages" : Str) = some x0 := lk_hd
theorem pt_Memory_pages {x0 x1 x2 v : V} : putF "pages" v (fs_Memory x0 x1 x2) = fs_Memory v x1 x2 := pt_hd
theorem lk_Memory_most {x0 x1 x2 : V} : (fs_Memory x0 x1 x2).lookup ("most" : Str) = some x1 := (lk_tl (by decide +kernel)).trans (lk_hd)
theorem pt_Memory_most {x0 x1 x2 v : V} : putF "most" v (fs_Memory x0 x1 x2) = fs_Memory x0 v x2 := pt_tl (by decide +kernel) (pt_hd)
theorem lk_Memory_cells {x0 x1 x2 : V} : (fs_Memory x0 x1 x2).lookup ("cells" : Str) = some x2 := (lk_tl (by decide +kernel)).trans ((lk_tl (by decide +kernel)).trans (lk_hd))
theorem pt_Memory_cells {x0 x1 x2 v : V} : putF "cells" v (fs_Memory x0 x1 x2) = fs_Memory x0 x1 v := pt_tl (by decide +kernel) (pt_tl (by decide +kernel) (pt_hd))
theorem no_Memory___init__ {x0 x1 x2 : V} : (fs_Memory x0 x1 x2).lookup ("__init__" : Str) = none := (lk_tl (by decide +kernel)).trans ((lk_tl (by decide +kernel)).trans ((lk_tl (by decide +kernel)).trans (rfl)))
theorem no_Memory_size {x0 x1 x2 : V} : (fs_Memory x0 x1 x2).lookup ("size" : Str) = none := (lk_tl (by decide +kernel)).trans ((lk_tl (by decide +kernel)).trans ((lk_tl (by decide +kernel)).trans (rfl)))
theorem no_Memory_read {x0 x1 x2 : V} : (fs_Memory x0 x1 x2).lookup ("read" : Str) = none := (lk_tl (by decide +kernel)).trans ((lk_tl (by decide +kernel)).trans ((lk_tl (by decide +kernel)).trans (rfl)))
theorem no_Memory_write {x0 x1 x2 : V} : (fs_Memory x0 x1 x2).lookup ("write" : Str) = none := (lk_tl (by decide +kernel)).trans ((lk_tl (by decide +kernel)).trans ((lk_tl (by decide +kernel)).trans (rfl)))
theorem in_Memory_0 {x0 x1 x2 : V} : putF "pages" x0 ([] : List (Str × V)) = [(("pages" : Str), x0)] := pt_nl
theorem in_Memory_1 {x0 x1 x2 : V} : putF "most" x1 ([(("pages" : Str), x0)] : List (Str × V)) = [(("pages" : Str), x0), (("most" : Str), x1)] := pt_tl (by decide +kernel) (pt_nl)
theorem in_Memory_2 {x0 x1 x2 : V} : putF "cells" x2 ([(("pages" : Str), x0), (("most" : Str), x1)] : List (Str × V)) = [(("pages" : Str), x0), (("most" : Str), x1), (("cells" : Str), x2)] := pt_tl (by decide +kernel) (pt_tl (by decide +kernel) (pt_nl))
/-- what the top leaves: built-in names that nothing binds, own classes -/
structure Tp (w : World) (K : PySem.W.Frag) (mg : Str → Option Value) (cs : Cs) : Prop where
  m_bool : mg "bool" = none
  m_enumerate : mg "enumerate" = none
  m_int : mg "int" = none
  m_isinstance : mg "isinstance" = none
  m_len : mg "len" = none
  m_list : mg "list" = none
  m_max : mg "max" = none
  m_min : mg "min" = none
  m_range : mg "range" = none
  m_sorted : mg "sorted" = none
  i_PAGE_BYTES : ∃ t, mg "PAGE_BYTES" = some (.int 65536 t)
  g_Memory : mg "Memory" = some (.ref cs.C_Memory)
  cl_Memory : Cls K cs.C_Memory
  n_Memory_pages : NoAttr K cs.C_Memory "pages"
  n_Memory_most : NoAttr K cs.C_Memory "most"
  n_Memory_cells : NoAttr K cs.C_Memory "cells"
/-! ### t[::-1] of a tuple; a loop over the turned copy of a list or a tuple -/
theorem rv_adj (n : Nat) : Builtin.Slice.sliceAdjust none none (-1) (n : Int) = ((n : Int) - 1, -1) := by
  unfold Builtin.Slice.sliceAdjust
  rfl
theorem rv_places (n : Nat) : Builtin.Slice.slicePlaces ((n : Int) - 1) (-1) (-1) = n := by
  unfold Builtin.Slice.slicePlaces
  rw [if_neg (by omega)]
  by_cases h : (n : Int) - 1 > -1
  · rw [if_pos h, show (-(-1) : Int) = 1 from rfl, Int.ediv_one]; omega
  · rw [if_neg h]; show 0 = n; omega
theorem fm_congr {α β : Type} {f g : α → Option β} : ∀ {l : List α}, (∀ m ∈ l, f m = g m) → l.filterMap f = l.filterMap g
  | [], _ => rfl
  | a :: r, h => by
    rw [List.filterMap_cons, List.filterMap_cons, h a (List.mem_cons_self ..), fm_congr fun m hm => h m (List.mem_cons_of_mem _ hm)]
theorem rv_pick (xs : Array Value) : ((List.range xs.size).filterMap fun (m : Nat) => xs[((xs.size : Int) - 1 + (m : Int) * (-1)).toNat]?).toArray = xs.toList.reverse.toArray := by
  congr 1
  have e : ∀ m ∈ List.range xs.size, (fun (m : Nat) => xs[((xs.size : Int) - 1 + (m : Int) * (-1)).toNat]?) m = (fun (m : Nat) => xs[xs.size - 1 - m]?) m := by
    intro m hm
    have h := List.mem_range.mp hm
    have : ((xs.size : Int) - 1 + (m : Int) * (-1)).toNat = xs.size - 1 - m := by omega
    show xs[_]? = xs[_]?
    rw [this]
  rw [fm_congr e, ← PySem.W.krv_all, ← List.filterMap_reverse, ← PySem.W.krv_range, List.filterMap_map]
  rfl
section
variable {P : Program} {w : World} {A : Around} {E : Value → Shared → Prop} {s : Shared}
theorem rv_applied {sl : Addr} {u : Tok} {n : Nat} {Q : Int × Int × Nat → Shared → Prop} (hs : s.heap.IsSliceOf sl .none .none (.int (-1) u)) (h : Q ((n : Int) - 1, -1, n) s) :
    wpAny (model P w) A (Builtin.Slice.sliceApplied (.ref sl) (pure (n : Int))) Q E s := by
  obtain ⟨o, ho, hc, hd⟩ := hs
  unfold Builtin.Slice.sliceApplied Builtin.Slice.sliceFields
  refine wpAny_bind (wpAny_bind (wpAny_field ho hd (x := Value.none) rfl (wpAny_bind (wpAny_field ho hd (x := Value.none) rfl (wpAny_bind (wpAny_field ho hd (x := .int (-1) u) rfl (wpAny_pure ?_)))))))
  refine wpAny_bind (HT.slicePart_ (.int (-1) u) ?_)
  show wpAny _ _ (if ((-1 : Int) == 0) = true then _ else _) _ _ s
  rw [if_neg (by decide)]
  refine wpAny_bind (HT.slicePart_ .none (wpAny_bind (HT.slicePart_ .none (wpAny_bind (wpAny_pure ?_)))))
  show wpAny _ _ (match Builtin.Slice.sliceAdjust none none (-1) (n : Int) with | (lo, hi) => pure (lo, (-1 : Int), Builtin.Slice.slicePlaces lo hi (-1))) _ _ s
  rw [rv_adj]
  show wpAny _ _ (pure ((n : Int) - 1, (-1 : Int), Builtin.Slice.slicePlaces ((n : Int) - 1) (-1) (-1))) _ _ s
  rw [rv_places]
  exact wpAny_pure h
theorem rv_getItem {t sl : Addr} {xs : Array Value} {u : Tok} {Q : Value → Shared → Prop} (ht : IsTup s.heap t xs) (hs : s.heap.IsSliceOf sl .none .none (.int (-1) u))
    (h : Q (.ref s.heap.objs.size) { s with heap := s.heap.push { cls := .type "tuple", data := .seq xs.toList.reverse.toArray } }) (hz : xs.size ≤ sizeLine) :
    wpAny (model P w) A (getItem (.ref t) (.ref sl)) Q E s := by
  have hk : sizeOk (.seq xs.toList.reverse.toArray) := by
    show xs.toList.reverse.toArray.size ≤ sizeLine
    rw [List.size_toArray, List.length_reverse, Array.length_toList]
    exact hz
  have hT : s.TypeIs (.ref sl) "slice" := by obtain ⟨o, ho, hc, _⟩ := hs; exact ⟨o, ho, hc⟩
  unfold getItem
  try with_reducible refine wpAny_holding ?_
  try refine wpAny_bind (wpAny_pure ?_)
  refine wpAny_bind (wpAny_sequenceKey ht.typeIs (by decide) ?_)
  refine wpAny_bind (wpAny_callSpecial?_slot (name := Str.ofString "__getitem__") ht.typeIs PyProof.Rows.slot_tuple_getitem
    (wpAny_call_entry PyProof.Rows.slot_tuple_getitem ht.typeIs entry_tuple_getitem ?_ (args_tuple_getitem _ _)))
  show wpAny _ _ (Builtin.Tuple.tupleItemsOf (.ref t) >>= _) _ _ s
  refine wpAny_bind (tupleItemsOf_ ht ?_)
  refine wpAny_bind (wpAny_typeOf hT ?_)
  rw [if_pos (by decide)]
  refine wpAny_bind (rv_applied hs ?_)
  have hn : ¬ (((xs.size : Int) - 1 == 0 && (-1 : Int) == 1 && xs.size == xs.size) = true) := by
    rw [show ((-1 : Int) == 1) = false from rfl, Bool.and_false, Bool.false_and]; decide
  show wpAny _ _ (if ((xs.size : Int) - 1 == 0 && (-1 : Int) == 1 && xs.size == xs.size) = true then _ else _) _ _ s
  rw [if_neg hn, rv_pick]
  first
    | exact wpAny_bind (m := Builtin.Tuple.tupleExact _) (wpAny_newObj_type (wpAny_pure ⟨_, rfl, wpAny_pure h⟩) hk)
    | exact wpAny_bind (m := Builtin.Tuple.tupleExact _) (wpAny_newObj_type (wpAny_bind (wpAny_pure (wpAny_pure ⟨_, rfl, wpAny_pure h⟩))) hk)
    | exact wpAny_bind (wpAny_bind (m := Builtin.Tuple.tupleExact _) (wpAny_newObj_type (wpAny_pure (wpAny_pure ⟨_, rfl, wpAny_pure h⟩)) hk))
    | exact wpAny_bind (wpAny_bind (m := Builtin.Tuple.tupleExact _) (wpAny_newObj_type (wpAny_pure ⟨_, rfl, wpAny_pure h⟩) hk))
end
section
variable {X : Cx}
def tRevT (K : PySem.W.Frag) (te : TE) : TE := fun σ H Q => te σ H fun x H1 => ∃ a xs, x = .ref a ∧ SqT K H1 a xs ∧ ∀ p, H1 p = none → Q (.ref p) (upd H1 p (.tup xs.reverse))
theorem pe_revT {e : Expr} {te : TE} {k : Nat} {p1 p2 p3 pos : Pos} (he : PE X e te) : PE X (.Subscript e (.Slice none none (some (.UnaryOp .USub (.Constant (.int 1) k p1) p2)) p3) pos) (tRevT X.K te) := by
  refine ⟨fun pins s σ H Q I h => Subscript_ (thn (he.run pins s σ H _ I h) fun v s1 ⟨x, H1, I1, r1, q1⟩ => ?_)⟩
  obtain ⟨a, xs, rfl, hx, q⟩ := q1
  cases r1
  have hm : PO X (some (.UnaryOp .USub (.Constant (.int 1) k p1) p2)) (tPart (tUn (rU fun i => .int (-i)) (tC (.int 1)))) := po_some (pe_un un_neg pe_int)
  refine wpAny_Slice (thn (po_none.run pins s1 σ H1 (fun o H2 => o = none ∧ H2 = H1) I1 ⟨rfl, rfl⟩) ?_)
  rintro vl s2 ⟨_, _, I2, pl, rfl, rfl⟩
  refine thn (po_none.run pins s2 σ _ (fun o H3 => o = none ∧ H3 = _) I2 ⟨rfl, rfl⟩) ?_
  rintro vu s3 ⟨_, _, I3, pu, rfl, rfl⟩
  refine thn (hm.run pins s3 σ _ (fun o H4 => o = some (-1) ∧ H4 = _) I3 ⟨1, rfl, -1, rfl, rfl, rfl⟩) ?_
  rintro vs s4 ⟨_, H4, I4, ps, rfl, rfl⟩
  cases pl
  cases pu
  cases ps with
  | int _ u =>
    have I5 : Inv X pins σ H4 { s4 with heap := s4.heap.push { cls := .type "slice", data := .fields #[.none, .none, .int (-1) u] } } := I4.kept (t' := s4.toks) fun b ob z => Heap.get?_push_of_some _ z
    obtain ⟨its, r, ht, hz⟩ := I5.tuple hx
    show wpAny (model X.prog X.w) X.A (subscriptTail e (.Slice none none (some (.UnaryOp .USub (.Constant (.int 1) k p1) p2)) p3) (.ref a) (.ref s4.heap.objs.size)) (EP X pins σ Q) X.xe { s4 with heap := s4.heap.push { cls := .type "slice", data := .fields #[.none, .none, .int (-1) u] } }
    refine tail_any (ops := [.ref a, .ref s4.heap.objs.size]) ht.typeIs (PyProof.Rows.slot_tuple_getitem.lookup) ?_ (by with_unfolding_all rfl)
    refine rv_getItem ht (Heap.IsSliceOf.new _ .none .none (.int (-1) u)) ?_ (by rw [List.size_toArray]; exact r.length ▸ hz)
    exact ⟨.ref _, _, I5.laid (t' := s4.toks) (o := .tup xs.reverse) (fun b ob z => Heap.get?_push_of_some _ z) (Nat.le_refl _) ⟨by rw [List.length_reverse]; exact hz, _, r.reverse, IsTup.new _ _⟩, rfl, q _ (I5.hok.fresh (Nat.le_refl _))⟩
theorem pi_or {tg e : Expr} {u t : TI} (h1 : PI X tg e u) (h2 : PI X tg e t) : PI X tg e (fun σ H R => u σ H R ∨ t σ H R) :=
  ⟨fun pins s σ H R I h => h.elim (h1.run pins s σ H R I) (h2.run pins s σ H R I)⟩
end
theorem for_tupD {K : PySem.W.Frag} {a : Addr} {xs : List V} {g : TG} {tb : TS} {nx : L2.St → Hp → Prop} {rt : VK} {σ : L2.St} {H : Hp} (Pv : Nat → L2.St → Hp → Prop) (h0 : Pv 0 σ H) (hl : ∀ i σ H, i ≤ xs.length → Pv i σ H → SqT K H a xs)
    (hs : ∀ i x σ H, xs[i]? = some x → Pv i σ H → g x σ H fun σ2 H2 => tb { nx := Pv (i + 1), rt := rt, bk := nx, ct := Pv (i + 1) } σ2 H2) (hd : ∀ σ H, Pv xs.length σ H → nx σ H) :
    ∃ W : Nat → Nat → L2.St → Hp → Prop, (∃ m, W 0 m σ H) ∧ ∀ i m σ H, W i m σ H → ((Itt K a).stop i H ∧ nx σ H) ∨ ((Itt K a).go i H ∧ ∃ N : L2.St → Hp → Prop, (∀ σ' H', N σ' H' → ∃ m', m' < m ∧ W (i + 1) m' σ' H') ∧
      ∀ x H', (Itt K a).yld i H x H' → g x σ H' fun σ2 H2 => tb { nx := N, rt := rt, bk := nx, ct := N } σ2 H2) := for_tup (D := { nx := nx, rt := rt }) Pv h0 hl hs hd

/-! ### lists of ints that are the same -/
theorem dp_all {K : PySem.W.Frag} {H : Hp} : ∀ ns : List Int, DpAll K H (ns.map V.int) (ns.map PyData.int)
  | [] => .nil
  | _ :: r => .cons (.int _) (dp_all r)
theorem canlay_ints : ∀ ns : List Int, PyData.canLayAll0 (ns.map PyData.int) = true
  | [] => rfl
  | _ :: r => by
    show PyData.canLayAll0 (PyData.int _ :: r.map PyData.int) = true
    simp only [PyData.canLayAll0, PyData.canLay0, canlay_ints r, Bool.and_self]
theorem depth_ints : ∀ ns : List Int, PyData.depthAll (ns.map PyData.int) ≤ 63
  | [] => by simp [PyData.depthAll]
  | _ :: r => by
    have h := depth_ints r
    simp [PyData.depthAll, PyData.depth] at h ⊢
    exact h
theorem shaped_ints (ns : List Int) : SeqAt.shaped (.list (ns.map PyData.int)) = true := by
  unfold SeqAt.shaped
  rw [Bool.and_eq_true]
  refine ⟨?_, decide_eq_true ?_⟩
  · simp only [PyData.canLay0, canlay_ints]
  · have h := depth_ints ns
    simp only [PyData.depth] at h ⊢
    omega
theorem eqD_same {K : PySem.W.Frag} {H : Hp} {x y : V} {d : PyData} {Q : VK} (h1 : Dp K H x d) (h2 : Dp K H y d) (s : SeqAt.shaped d = true) (q : Q (.bl true) H) : rEqD K x y H Q :=
  ⟨d, d, h1, h2, s, s, by rw [SeqAt.eqv_refl d (SeqAt.canLay_of_shaped s)]; exact q⟩
theorem neD_same {K : PySem.W.Frag} {H : Hp} {x y : V} {d : PyData} {Q : VK} (h1 : Dp K H x d) (h2 : Dp K H y d) (s : SeqAt.shaped d = true) (q : Q (.bl false) H) : rNeD K x y H Q :=
  ⟨d, d, h1, h2, s, s, by rw [SeqAt.eqv_refl d (SeqAt.canLay_of_shaped s)]; exact q⟩
theorem dp_ints {K : PySem.W.Frag} {H : Hp} {a : Addr} {ns : List Int} (h : SqL K H a (ns.map V.int)) : Dp K H (.ref a) (.list (ns.map PyData.int)) := .lst h (dp_all ns)
theorem eqv_ints (ns : List Int) : PyData.eqv (.list (ns.map PyData.int)) (.list (ns.map PyData.int)) = true := SeqAt.eqv_refl _ (SeqAt.canLay_of_shaped (shaped_ints ns))

/-! ### ifs and tests whose answer is known -/
theorem ifNe {x y : Int} {A B : Prop} (e : x = y) (h : B) : if (!decide (V.int x = V.int y)) = true then A else B := by
  subst e
  rw [decide_eq_true rfl]
  exact h
theorem ifNeN {x y : Int} {A B : Prop} (e : ¬ x = y) (h : A) : if (!decide (V.int x = V.int y)) = true then A else B := by
  rw [decide_eq_false (fun z => e (V.int.inj z))]
  exact h
theorem eqT {x y : Int} (e : x = y) : decide (V.int x = V.int y) = true := decide_eq_true (congrArg V.int e)
theorem qT {x y : Int} {Q : VK} {H : Hp} (e : x = y) (h : Q (.bl true) H) : Q (.bl (decide (V.int x = V.int y))) H := by rw [eqT e]; exact h
theorem orV {t u : TE} {σ : L2.St} {H : Hp} {Q : VK} (b1 b2 : Bool) (h1 : ∀ Q, (∀ H', Same H H' → Q (.bl b1) H') → t σ H Q) (h2 : ∀ H' Q, Q (.bl b2) H' → u σ H' Q) (q : ∀ H', Same H H' → Q (.bl (b1 || b2)) H') : tOrV t u σ H Q := by
  refine h1 _ fun H' s => ⟨b1, rfl, ?_⟩
  cases b1 with
  | true => rw [if_pos rfl]; exact q _ s
  | false => rw [if_neg (by decide)]; exact h2 _ _ (q _ s)
theorem andV {t u : TE} {σ : L2.St} {H : Hp} {Q : VK} (b1 b2 : Bool) (h1 : ∀ Q, Q (.bl b1) H → t σ H Q) (h2 : ∀ Q, Q (.bl b2) H → u σ H Q) (q : Q (.bl (b1 && b2)) H) : tAndV t u σ H Q := by
  refine h1 _ ⟨b1, rfl, ?_⟩
  cases b1 with
  | true => rw [if_pos rfl]; exact h2 _ q
  | false => rw [if_neg (by decide)]; exact q
theorem orF {t u : TT} {σ : L2.St} {H : Hp} {Q : Bool → Hp → Prop} (h1 : ∀ Q, (∀ H', Same H H' → Q false H') → t σ H Q) (h2 : ∀ H', Same H H' → ∀ Q, (∀ H'', Same H' H'' → Q false H'') → u σ H' Q) (q : ∀ H', Same H H' → Q false H') : tOr t u σ H Q := by
  refine h1 _ fun H' s => ?_
  rw [if_neg (by decide)]
  exact h2 _ s _ fun H'' s' => q _ (s.trans s')
theorem neF {x y : Int} {Q : Bool → Hp → Prop} {H : Hp} (e : x = y) (h : Q false H) : Q (!decide (V.int x = V.int y)) H := by rw [eqT e]; exact h
theorem ifEq {x y : Int} {A B : Prop} (e : x = y) (h : A) : if decide (V.int x = V.int y) = true then A else B := by rw [eqT e]; exact h
theorem ifEqN {x y : Int} {A B : Prop} (e : ¬ x = y) (h : B) : if decide (V.int x = V.int y) = true then A else B := by
  rw [decide_eq_false (fun z => e (V.int.inj z))]; exact h
theorem ifS {x y : Str} {A B : Prop} (e : x = y) (h : A) : if decide (V.str x = V.str y) = true then A else B := by rw [if_pos (decide_eq_true (congrArg V.str e))]; exact h
theorem ifSN {x y : Str} {A B : Prop} (e : ¬ x = y) (h : B) : if decide (V.str x = V.str y) = true then A else B := by
  rw [if_neg (fun z => e (V.str.inj (of_decide_eq_true z)))]; exact h
theorem ifNeS {x y : Str} {A B : Prop} (e : x = y) (h : B) : if (!decide (V.str x = V.str y)) = true then A else B := by
  subst e
  rw [decide_eq_true rfl]
  exact h
theorem qTS {x y : Str} {Q : VK} {H : Hp} (e : x = y) (h : Q (.bl true) H) : Q (.bl (decide (V.str x = V.str y))) H := by rw [decide_eq_true (congrArg V.str e)]; exact h
theorem call_isiS {X : Cx} {a : Addr} {ps : List (Addr × Obj)} : CallR (X.suite a ps) (.builtin "isinstance") (rIsi X.K) := call_isi
theorem for_tupE {K : PySem.W.Frag} {a : Addr} {xs : List V} {g : TG} {tb : TS} {nx : L2.St → Hp → Prop} {rt : VK} {σ : L2.St} {H : Hp} (Pv : Nat → L2.St → Hp → Prop) (h0 : Pv 0 σ H) (hl : ∀ i σ H, i ≤ xs.length → Pv i σ H → SqT K H a xs)
    (hs : ∀ i x σ H, xs[i]? = some x → Pv i σ H → g x σ H fun σ2 H2 => tb { nx := Pv (i + 1), rt := rt, bk := nx, ct := Pv (i + 1) } σ2 H2) (hd : ∀ σ H, Pv xs.length σ H → nx σ H) :
    ∃ W : Nat → Nat → L2.St → Hp → Prop, (∃ m, W 0 m σ H) ∧ ∀ i m σ H, W i m σ H → ((Itt K a).stop i H ∧ nx σ H) ∨ ((Itt K a).go i H ∧ ∃ N : L2.St → Hp → Prop, (∀ σ' H', N σ' H' → ∃ m', m' < m ∧ W (i + 1) m' σ' H') ∧
      ∀ x H', (Itt K a).yld i H x H' → g x σ H' fun σ2 H2 => tb { nx := N, rt := rt, bk := nx, ct := N } σ2 H2) := for_tup (D := { nx := nx, rt := rt }) Pv h0 hl hs hd
theorem isi_bool {K : PySem.W.Frag} {H : Hp} {b : Bool} {Q : VK} (q : Q (.bl true) H) : rIsi K [.bl b, .ty "bool"] H Q := ⟨.bl b, .ty "bool", _, _, true, rfl, .ty _, .base (.bl _), kit_ty (by decide +kernel), q⟩
theorem ne_of_nd {x y : Int} (h : (!decide (V.int x = V.int y)) = true) : ¬ x = y := fun e => by
  rw [decide_eq_true (congrArg V.int e)] at h; cases h
theorem eq_of_nd {x y : Int} (h : ¬ (!decide (V.int x = V.int y)) = true) : x = y := by
  by_cases e : x = y
  · exact e
  · exact absurd (by rw [decide_eq_false (fun z => e (V.int.inj z))]; rfl) h
theorem eq_of_d {x y : Int} (h : decide (V.int x = V.int y) = true) : x = y := V.int.inj (of_decide_eq_true h)
theorem ne_of_d {x y : Int} (h : ¬ decide (V.int x = V.int y) = true) : ¬ x = y := fun e => h (decide_eq_true (congrArg V.int e))
theorem sign_of (d : Nat) : -1 ≤ ([1, -1] : List Int).getD d 0 ∧ ([1, -1] : List Int).getD d 0 ≤ 1 := by
  match d with
  | 0 => decide
  | 1 => decide
  | _ + 2 => exact (by decide : (-1 : Int) ≤ 0 ∧ (0 : Int) ≤ 1)
section
variable {X : Cx} {s : Shared} {H : Hp} {sc : Scope} {en : Env} {fp : List Addr}
theorem ix_listB : IxR (X.blk s H sc en fp) (L2.rIxL X.K) := ix_list
theorem ix_tupB : IxR (X.blk s H sc en fp) (L2.rIxT X.K) := ix_tup
theorem call_isiB : CallR (X.blk s H sc en fp) (.builtin "isinstance") (rIsi X.K) := call_isi
end
theorem andIf {t : TE} {σ : L2.St} {H : Hp} {Q : VK} {b1 b2 : Bool} (h : ∀ Q', Q' (.bl b2) H → t σ H Q') (q : Q (.bl (b1 && b2)) H) : if b1 = true then t σ H Q else Q (.bl false) H := by
  cases b1 with
  | true => exact h _ q
  | false => exact q
theorem op_eqDS {X : Cx} {a : Addr} {ps : List (Addr × Obj)} (hu : X.A.units + 64 < cLine) : OpR (X.suite a ps) (compareOp .Eq) (rEqD X.K) := op_eqD (X := X.suite a ps) hu
theorem isi_of {K : PySem.W.Frag} {H : Hp} {x : V} {n : String} {t : Value} {b : Bool} {Q : VK} (h : TyX K H x t) (k : PySem.W.kitOne K t (.type n) = some b) (q : Q (.bl b) H) : rIsi K [x, .ty n] H Q := ⟨x, .ty n, t, _, b, rfl, .ty _, h, k, q⟩

/-! ### lists of texts, heaps that grow -/
theorem newE {H H' : Hp} {p : Addr} {xs : List V} {zs : List Str} (h : H p = none) (e : upd H p (.lst xs) = H') (hx : xs = zs.map V.str) : Same H H' ∧ H' p = some (.lst (zs.map V.str)) := by
  subst e hx
  exact ⟨Same.new h, upd_same⟩
theorem at_strs {zs : List Str} {k : Nat} (h : k < zs.length) : ∃ z ∈ zs, atI (zs.map V.str) (k : Int) = some (.str z) :=
  ⟨zs[k], List.getElem_mem h, atI_nat (by rw [List.getElem?_map, List.getElem?_eq_getElem h]; rfl)⟩
theorem none_of {H H' : Hp} {p : Addr} (s : Same H H') (h : H' p = none) : H p = none := by
  cases e : H p with
  | none => rfl
  | some o => rw [s _ _ e] at h; cases h
theorem catE {H : Hp} {l b : Addr} {zs ys : List Str} {Q : VK} (hl : H l = some (.lst (zs.map V.str))) (hb : H b = some (.lst (ys.map V.str))) (hn : zs.length + ys.length ≤ 1000) (q : ∀ p H', Same H H' → H p = none → H' p = some (.lst ((zs ++ ys).map V.str)) → Q (.ref p) H') : rCat (.ref l) (.ref b) H Q :=
  ⟨l, b, _, _, rfl, rfl, hl, hb, by rw [List.length_map, List.length_map]; exact small64 (by omega), fun p hp => q p _ (Same.new hp) hp (by rw [upd_same, List.map_append])⟩
def LstS (H : Hp) (Q : VK) (zs : List Str) : Prop := ∀ p H', Same H H' → H p = none → H' p = some (.lst (zs.map V.str)) → Q (.ref p) H'
theorem lc_mapS {K : PySem.W.Frag} {a : Addr} {zs : List Str} {j : Nat} {te : TE} {σ : L2.St} {H1 : Hp} {D : Addr} {Qd : Hp → Prop} (f : Str → Str) (hD : H1 D = none) (hS : SqL K H1 a (zs.map V.str)) (hn : zs.length ≤ 100000)
    (hs : ∀ z H Q, z ∈ zs → Same H1 H → (∀ H', Same H H' → Q (.str (f z)) H') → te ((σ.set j none).set j (some (.str z))) H Q) (hd : ∀ H, Same H1 H → H D = some (.lst ((zs.map f).map V.str)) → Qd H) :
    ∃ W : Nat → Nat → Hp → Prop, (∃ m, W 0 m (upd H1 D (.lst []))) ∧ ∀ i m H, W i m H →
      ((Itl K a).stop i H ∧ Qd H) ∨ ((Itl K a).go i H ∧ ∃ Nx : Hp → Prop, (∀ H', Nx H' → ∃ m', m' < m ∧ W (i + 1) m' H') ∧ ∀ x H', (Itl K a).yld i H x H' → gName j x (wipe σ [j]) H' fun σ2 H2 => wipe σ2 [j] = wipe σ [j] ∧ tYes σ2 H2 fun b H3 =>
        if b = true then te σ2 H3 fun y H4 => ∃ acc, H4 D = some (.lst acc) ∧ acc.length < sizeLine ∧ Nx (upd H4 D (.lst (acc ++ [y]))) else Nx H3) := by
  refine lc_map (f := fun v => match v with | .str z => .str (f z) | v => v) hD hS (by rw [List.length_map]; exact hn) (fun x H2 Q2 hx s2 q2 => ?_) (fun H2 s2 hD2 => ?_)
  · obtain ⟨z, hz, rfl⟩ := List.mem_map.mp hx
    exact hs z H2 Q2 hz s2 q2
  · refine hd H2 s2 ?_
    rw [hD2, List.map_map, List.map_map]; rfl
theorem flat_strs : ∀ zs : List Str, (zs.map V.str).all flatV = true
  | [] => rfl
  | _ :: r => flat_strs r
theorem inV_mem (z : Str) (zs : List Str) : inV (.str z) (zs.map V.str) = true ↔ z ∈ zs := by
  unfold inV
  rw [List.any_map, List.any_eq_true]
  constructor
  · rintro ⟨y, hy, e⟩
    have e' : (y == z) = true := e
    rw [← eq_of_beq e']; exact hy
  · intro h
    exact ⟨z, h, (beq_self_eq_true z : (z == z) = true)⟩

/-- a name that the module binds to an int -/
theorem pe_gint {X : Cx} {x : Str} {p : Pos} {i : Int} (hg : Gl X x) (hm : ∃ t, X.mg x = some (.int i t)) (hdb : (x == ("__debug__" : Str)) = false := by decide) : PE X (.Name x p) (tC (.int i)) := by
  obtain ⟨t, h⟩ := hm
  exact pe_glob hg h ⟨t, rfl⟩ hdb

/-! ### a comprehension over a range, whose items are drawn -/
theorem lc_anyR {n j : Nat} {te : TE} {σ : L2.St} {H1 : Hp} {D : Addr} {Qd : Hp → Prop} (φ : V → Prop) (hD : H1 D = none) (hn : n ≤ 100000)
    (hs : ∀ i H Q, i < n → Same H1 H → (∀ y H', φ y → Same H H' → Q y H') → te ((σ.set j none).set j (some (.int i))) H Q) (hd : ∀ xs H, xs.length = n → (∀ x ∈ xs, φ x) → Same H1 H → H D = some (.lst xs) → Qd H) :
    ∃ W : Nat → Nat → Hp → Prop, (∃ m, W 0 m (upd H1 D (.lst []))) ∧ ∀ i m H, W i m H →
      ((Itr 0 n).stop i H ∧ Qd H) ∨ ((Itr 0 n).go i H ∧ ∃ Nx : Hp → Prop, (∀ H', Nx H' → ∃ m', m' < m ∧ W (i + 1) m' H') ∧ ∀ x H', (Itr 0 n).yld i H x H' → gName j x (wipe σ [j]) H' fun σ2 H2 => wipe σ2 [j] = wipe σ [j] ∧ tYes σ2 H2 fun b H3 =>
        if b = true then te σ2 H3 fun y H4 => ∃ acc, H4 D = some (.lst acc) ∧ acc.length < sizeLine ∧ Nx (upd H4 D (.lst (acc ++ [y]))) else Nx H3) := by
  refine lc_range (fun i H => Same H1 H ∧ ∃ xs : List V, xs.length = i ∧ (∀ x ∈ xs, φ x) ∧ H D = some (.lst xs)) ⟨Same.new hD, [], rfl, (fun _ z => nomatch z), upd_same⟩ (fun i H hi h => ?_) (fun H h => by obtain ⟨s, xs, hl, hx, hk⟩ := h; exact hd xs H hl hx s hk)
  rw [Int.zero_add]
  obtain ⟨s, xs, hl, hx, hk⟩ := h
  refine ⟨?_, ?_⟩
  · show (((σ.set j none).set j (some (V.int i))).set j none) = σ.set j none
    rw [List.set_set, List.set_set]
  · simp only [tYes, if_true]
    refine hs i H _ hi s fun y H' hy s' => ?_
    refine ⟨_, s' _ _ hk, ?_, fun b o e => ?_, xs ++ [y], ?_, fun x hx' => ?_, upd_same⟩
    · exact small64' (by omega)
    · have nb : b ≠ D := fun z => by rw [z, hD] at e; cases e
      rw [upd_ne nb]; exact s' _ _ (s _ _ e)
    · rw [List.length_append, hl]; rfl
    · rcases List.mem_append.mp hx' with z | z
      · exact hx x z
      · rw [List.mem_singleton] at z; rw [z]; exact hy
theorem ints_of {ψ : Int → Prop} : ∀ {xs : List V}, (∀ x ∈ xs, ∃ n, x = .int n ∧ ψ n) → ∃ ns : List Int, xs = ns.map V.int ∧ ∀ n ∈ ns, ψ n
  | [], _ => ⟨[], rfl, fun _ z => nomatch z⟩
  | x :: r, h => by
    obtain ⟨n, rfl, hn⟩ := h x (List.mem_cons_self ..)
    obtain ⟨ns, rfl, hns⟩ := ints_of fun y hy => h y (List.mem_cons_of_mem _ hy)
    refine ⟨n :: ns, rfl, fun m hm => ?_⟩
    rcases List.mem_cons.mp hm with e | hm
    · rw [e]; exact hn
    · exact hns m hm
theorem strs_of {ψ : Str → Prop} : ∀ {xs : List V}, (∀ x ∈ xs, ∃ z, x = .str z ∧ ψ z) → ∃ zs : List Str, xs = zs.map V.str ∧ ∀ z ∈ zs, ψ z
  | [], _ => ⟨[], rfl, fun _ z => nomatch z⟩
  | x :: r, h => by
    obtain ⟨n, rfl, hn⟩ := h x (List.mem_cons_self ..)
    obtain ⟨ns, rfl, hns⟩ := strs_of fun y hy => h y (List.mem_cons_of_mem _ hy)
    refine ⟨n :: ns, rfl, fun m hm => ?_⟩
    rcases List.mem_cons.mp hm with e | hm
    · rw [e]; exact hn
    · exact hns m hm

/-! ### enumerate(list, start) -/
section
variable {prog : Program} {w : World} {A : Around} {E : Value → Shared → Prop} {s : Shared}
theorem en_next {e it l : Addr} {c : Int} {i : Nat} {X : Array Value} {x old : Value} {Q : Value → Shared → Prop} (he : IsEnum s.heap e it c old) (hit : s.heap.IsListIter it l i) (hl : s.heap.IsList l X) (hx : X[i]? = some x) (hne : e ≠ it)
    (hQ : ∀ h', IsEnumOut h' e it (c + 1) x s.heap.objs.size → h'.IsListIter it l (i + 1) → h'.get? s.heap.objs.size = some { cls := .type "tuple", data := .seq #[.int c s.toks, x] } → h'.objs.size = s.heap.objs.size + 1 →
      (∀ b o, b ≠ e → b ≠ it → s.heap.get? b = some o → h'.get? b = some o) → Q (.ref s.heap.objs.size) { s with heap := h', toks := s.toks + 1 }) :
    wpAny (model prog w) A (Builtin.«enumerate.__next__» ⟨[.ref e], []⟩) (fun fin s' => ∃ v, fin = .done (.ret v) ∧ Q v s') E s := by
  obtain ⟨hp, g, d, tk, os⟩ := s
  show wpAny _ _ (field (.ref e) 2 >>= _) _ _ _
  refine wpAny_bind (wpAny_field he rfl (x := .ref it) rfl ?_)
  refine wpAny_bind (wpAny_nextOf_list_item hit hl hx fun g1 j1 s1 => ?_)
  have s1' : Heap.SameBut it hp g1 := s1
  have a1 : IsEnum g1 e it c old := s1'.extBut _ _ hne he
  show wpAny _ _ (field (.ref e) 3 >>= _) _ _ ⟨g1, g, d, tk, os⟩
  refine wpAny_bind (wpAny_field a1 rfl (x := rawInt c) rfl ?_)
  show wpAny _ _ (field (.ref e) 4 >>= _) _ _ ⟨g1, g, d, tk, os⟩
  refine wpAny_bind (wpAny_field a1 rfl (x := .none) rfl ?_)
  show wpAny _ _ (mkInt c >>= _) _ _ ⟨g1, g, d, tk, os⟩
  refine wpAny_bind (wpAny_mkInt ?_)
  show wpAny _ _ (setField (.ref e) 3 (rawInt (c + 1)) >>= _) _ _ ⟨g1, g, d, tk + 1, os⟩
  refine wpAny_bind (wpAny_setField_rec a1 (by simp) fun g2 b2 s2 => ?_)
  have a2 : IsEnum g2 e it (c + 1) old := b2
  have s2' : Heap.SameBut e g1 g2 := s2
  show wpAny _ _ (setField (.ref e) 4 .none >>= _) _ _ ⟨g2, g, d, tk + 1, os⟩
  refine wpAny_bind (wpAny_setField_rec a2 (by simp) fun g3 b3 s3 => ?_)
  have a3 : IsEnum g3 e it (c + 1) old := b3
  have s3' : Heap.SameBut e g2 g3 := s3
  have k3 : ∀ b o, b ≠ e → b ≠ it → hp.get? b = some o → g3.get? b = some o := fun b o n1 n2 q => s3'.extBut _ _ n1 (s2'.extBut _ _ n1 (s1'.extBut _ _ n2 q))
  have z3 : g3.objs.size = hp.objs.size := by rw [s3'.1, s2'.1, s1'.1]
  have j3 : g3.IsListIter it l (i + 1) := j1.at fun o q => s3'.extBut _ _ (Ne.symm hne) (s2'.extBut _ _ (Ne.symm hne) q)
  show wpAny _ _ (newTuple [.int c tk, x] >>= _) _ _ ⟨g3, g, d, tk + 1, os⟩
  refine wpAny_bind (wpAny_newTuple ?_)
  have a4 : IsEnum (g3.push { cls := .type "tuple", data := .seq #[.int c tk, x] }) e it (c + 1) old := Heap.get?_push_of_some _ a3
  have t4 : (g3.push { cls := .type "tuple", data := .seq #[.int c tk, x] }).get? g3.objs.size = some { cls := .type "tuple", data := .seq #[.int c tk, x] } := Heap.get?_push_size _ rfl
  have z4 : (g3.push { cls := .type "tuple", data := .seq #[.int c tk, x] }).objs.size = hp.objs.size + 1 := by rw [Heap.size_push, z3]
  have k4 : ∀ b o, b ≠ e → b ≠ it → hp.get? b = some o → (g3.push { cls := .type "tuple", data := .seq #[.int c tk, x] }).get? b = some o := fun b o n1 n2 q => Heap.get?_push_of_some _ (k3 b o n1 n2 q)
  have j4 : (g3.push { cls := .type "tuple", data := .seq #[.int c tk, x] }).IsListIter it l (i + 1) := j3.at fun o q => Heap.get?_push_of_some _ q
  have lt : e < hp.objs.size := Heap.lt_size he
  generalize g3.push { cls := .type "tuple", data := .seq #[.int c tk, x] } = g4 at a4 t4 z4 k4 j4
  show wpAny _ _ (Builtin.SmallTypes.ownedTupleIsFree (.ref e) >>= _) _ _ ⟨g4, g, d, tk + 1, os⟩
  rw [z3]
  rw [z3] at t4
  refine wpAny_bind ?_
  unfold Builtin.SmallTypes.ownedTupleIsFree
  refine wpAny_bind (wpAny_field a4 rfl (x := .none) rfl (wpAny_pure ?_))
  simp only [if_true]
  refine wpAny_bind (wpAny_rule (wpAny_bind (wpAny_field a4 rfl (x := old) rfl ?_)))
  refine wpAny_bind (wpAny_setField_rec a4 (by simp) fun g5 b5 s5 => ?_)
  have a5 : IsEnum g5 e it (c + 1) x := b5
  have s5' : Heap.SameBut e g4 g5 := s5
  show wpAny _ _ (Builtin.SmallTypes.ownedTupleHandOut (.ref e) (.ref hp.objs.size) >>= _) _ _ ⟨g5, g, d, tk + 1, os⟩
  refine wpAny_bind ?_
  unfold Builtin.SmallTypes.ownedTupleHandOut
  refine wpAny_bind (wpAny_setField_rec a5 (by simp) fun g6 b6 s6 => ?_)
  have a6 : IsEnumOut g6 e it (c + 1) x hp.objs.size := b6
  have s6' : Heap.SameBut e g5 g6 := s6
  refine wpAny_setField_rec a6 (by simp) fun g7 b7 s7 => ?_
  have s7' : Heap.SameBut e g6 g7 := s7
  have up : ∀ b o, b ≠ e → g4.get? b = some o → g7.get? b = some o := fun b o n q => s7'.extBut _ _ n (s6'.extBut _ _ n (s5'.extBut _ _ n q))
  refine wpAny_bind (wpAny_letGo (wpAny_pure ⟨_, rfl, hQ g7 b7 (j4.at fun o q => up _ o (Ne.symm hne) q) (up _ _ (Nat.ne_of_gt lt) t4) (by rw [s7'.1, s6'.1, s5'.1, z4]) fun b o n1 n2 q => up b o n1 (k4 b o n1 n2 q)⟩))
theorem en_item {e it l : Addr} {c : Int} {i : Nat} {X : Array Value} {x old : Value} {Q : Option Value → Shared → Prop} (he : IsEnum s.heap e it c old) (hit : s.heap.IsListIter it l i) (hl : s.heap.IsList l X) (hx : X[i]? = some x) (hne : e ≠ it)
    (hQ : ∀ h', IsEnumOut h' e it (c + 1) x s.heap.objs.size → h'.IsListIter it l (i + 1) → h'.get? s.heap.objs.size = some { cls := .type "tuple", data := .seq #[.int c s.toks, x] } → h'.objs.size = s.heap.objs.size + 1 →
      (∀ b o, b ≠ e → b ≠ it → s.heap.get? b = some o → h'.get? b = some o) → Q (some (.ref s.heap.objs.size)) { s with heap := h', toks := s.toks + 1 }) : wpAny (model prog w) A (pyNext (.ref e)) Q E s := by
  have hT : s.TypeIs (.ref e) "enumerate" := ⟨_, he, rfl⟩
  unfold pyNext
  exact wpAny_bind (wpAny_attempt (wpAny_callSpecial?_slot (name := Str.ofString "__next__") hT F.slot_enumerate_next (wpAny_call_entry F.slot_enumerate_next hT F.entry_enumerate_next
    (en_next he hit hl hx hne fun h' q1 q2 q3 q4 q5 => wpAny_pure (hQ h' q1 q2 q3 q4 q5)) (F.args_enumerate_next_1 _))))
theorem en_stop {e it l : Addr} {c : Int} {i : Nat} {X : Array Value} {old : Value} {Q : Option Value → Shared → Prop} (hh : A.handled = none) (he : IsEnum s.heap e it c old) (hit : s.heap.IsListIter it l i) (hl : s.heap.IsList l X) (hx : X[i]? = none)
    (hQ : ∀ h', Heap.ExtBut it s.heap h' → Q none { s with heap := h' }) : wpAny (model prog w) A (pyNext (.ref e)) Q E s := by
  have hT : s.TypeIs (.ref e) "enumerate" := ⟨_, he, rfl⟩
  unfold pyNext
  refine wpAny_bind (wpAny_attempt (wpAny_callSpecial?_slot (name := Str.ofString "__next__") hT F.slot_enumerate_next (wpAny_call_entry F.slot_enumerate_next hT F.entry_enumerate_next ?_ (F.args_enumerate_next_1 _))))
  show wpAny _ _ (field (.ref e) 2 >>= _) _ _ _
  refine wpAny_bind (wpAny_field he rfl (x := .ref it) rfl (wpAny_bind (wpAny_nextOf_list_end hh hit hl hx fun h' x k z => ?_)))
  obtain ⟨o, ho, hc⟩ := z
  exact wpAny_bind (wpAny_isInstance (T := "StopIteration") (b := true) ⟨o, ho, hc⟩ isSubtype_stop (wpAny_pure (hQ _ k)))
end
theorem e2_call (a b : Value) : checkTypeCall "enumerate" ⟨[a, b], []⟩ = pure () := by kernel_rfl
theorem e2_new (a b : Value) : checkBuiltinCall "enumerate.__new__" ⟨[.type "enumerate", a, b], []⟩ = pure () := by kernel_rfl
theorem e2_meets (l : Addr) (X : Array Value) (n : Nat) (dct : Option Addr) (sl : Array (Option Value)) (c : Int) (t : Tok) (hf : Builtin.SmallTypes.fitsIndex c = true) :
    Meets (Builtin.«enumerate.__new__» ⟨[.type "enumerate", .ref l, .int c t], []⟩) (fun _ R s => s.heap.get? l = some { cls := .type "list", dict := dct, data := .seq X n, slots := sl } ∧
      R (.ok (.ret (.ref (s.heap.push { cls := .type "list_iterator", data := .fields #[.ref l, .int 0 0] }).objs.size)))
        { s with heap := (s.heap.push { cls := .type "list_iterator", data := .fields #[.ref l, .int 0 0] }).push { cls := .type "enumerate", data := .fields #[.none, .bool false, .ref s.heap.objs.size, rawInt c, .none, .none] } }) :=
  .of_wp fun prog w A R s h => by
    obtain ⟨hp, g, d, tk, os⟩ := s; obtain ⟨hl, h⟩ := h
    have hsub := sub_enumerate
    have hL : Heap.IsList (Shared.heap ⟨hp, g, d, tk, os⟩) l X := ⟨_, hl, rfl, n, rfl⟩
    wp_walk using AutoSeq1.wpAny_loadPart' hl
    refine wpAny_stack_any fun st => wpAny_pure ?_
    split
    · rename_i c' _ _ _ _ _
      cases (c' == Value.type "enumerate")
      · wp_walk using AutoSeq1.wpAny_loadPart' hl, wpAny_pyIter_list hL
        exact ⟨_, rfl, h⟩
      · wp_walk using AutoSeq1.wpAny_loadPart' hl, wpAny_pyIter_list hL
        exact ⟨_, rfl, h⟩
    · wp_walk using AutoSeq1.wpAny_loadPart' hl, wpAny_pyIter_list hL
      exact ⟨_, rfl, h⟩
section
variable {prog : Program} {w : World} {A : Around} {E : Value → Shared → Prop} {s : Shared}
theorem e2_make {l : Addr} {X : Array Value} {c : Int} {t : Tok} {Q : Value → Shared → Prop} (hL : s.heap.IsList l X) (hf : Builtin.SmallTypes.fitsIndex c = true)
    (h : ∀ h', IsEnum h' (s.heap.objs.size + 1) s.heap.objs.size c .none → h'.IsListIter s.heap.objs.size l 0 → (∀ b o, s.heap.get? b = some o → h'.get? b = some o) → Q (.ref (s.heap.objs.size + 1)) { s with heap := h' }) :
    wpAny (model prog w) A (call (.type "enumerate") [.ref l, .int c t]) Q E s := by
  obtain ⟨⟨cl, dct, dt, sl⟩, hl, hc, n, hd⟩ := hL
  obtain rfl : cl = .type "list" := hc
  obtain rfl : dt = .seq X n := hd
  refine callType_new F.called_enumerate (by decide) (e2_call _ _) (e2_new _ _) (fun obj => F.args_object_init_3 obj _ _) F.entry_enumerate_new (e2_meets l X n dct sl c t hf) ⟨hl, ?_⟩
  have hz : (s.heap.push { cls := .type "list_iterator", data := .fields #[.ref l, .int 0 0] }).objs.size = s.heap.objs.size + 1 := Heap.size_push ..
  have he : ((s.heap.push { cls := .type "list_iterator", data := .fields #[.ref l, .int 0 0] }).push { cls := .type "enumerate", data := .fields #[.none, .bool false, .ref s.heap.objs.size, rawInt c, .none, .none] }).get?
      (s.heap.push { cls := .type "list_iterator", data := .fields #[.ref l, .int 0 0] }).objs.size = some _ := Heap.get?_push_size _ rfl
  show _ ∧ _
  rw [hz] at he ⊢
  exact ⟨⟨_, he, rfl⟩, h _ he ⟨_, Heap.get?_push_of_some _ (Heap.get?_push_size _ rfl), rfl, rfl⟩ fun b o x => Heap.get?_push_of_some _ (Heap.get?_push_of_some _ x)⟩
end
/-- the list at a as it stands at each turn, its items behind numbers from c on -/
def ItS (K : PySem.W.Frag) (a : Addr) (c : Int) : It :=
  ⟨fun i H => ∃ (xs : List V) (x : V), SqL K H a xs ∧ xs[i]? = some x, fun i H v H' => ∃ T x, v = .ref T ∧ H T = none ∧ H' = upd H T (.tup [.int (c + (i : Nat)), x]) ∧ ∀ xs, SqL K H a xs → xs[i]? = some x, fun i H => ∃ xs : List V, SqL K H a xs ∧ xs.length ≤ i⟩
theorem turn_enS {P : Program} {w : World} {K : PySem.W.Frag} {elts : List Expr} {kk : Nat} {tpos : Pos} (a e it : Addr) (c : Int) :
    Turn P w K (.Tuple elts kk tpos) (ItS K a c) [e, it] e (fun i h => (∃ old, IsEnum h e it (c + ((i : Nat) : Int)) old) ∧ h.IsListIter it a i ∧ e ≠ it) where
  mem := by simp
  obj := fun i h st b hb => by
    obtain ⟨⟨old, he⟩, ⟨o, ho, hc, hd⟩, _⟩ := st
    rcases (show b = e ∨ b = it by simpa using hb) with z | z
    · rw [z]; exact ⟨_, he, fun v q => nomatch q⟩
    · rw [z]; exact ⟨o, ho, fun v q => by rw [hd] at q; cases q⟩
  keep := fun i h h' st k => let ⟨⟨old, he⟩, hi, hne⟩ := st; ⟨⟨old, k e (by simp) _ he⟩, hi.at fun o q => k it (by simp) o q, hne⟩
  item := by
    intro X hP hw hK hc i pins s σ H E I hf st hg
    subst hP hw hK
    obtain ⟨⟨old, he⟩, hit, hne⟩ := st
    obtain ⟨xs, x, hq, hx⟩ := hg
    obtain ⟨its, rv, p, hz⟩ := I.list hq
    obtain ⟨u, hu, ru⟩ := rv.get hx
    have le : e < s.heap.objs.size := Heap.lt_size he
    have li : it < s.heap.objs.size := by obtain ⟨_, q, _⟩ := hit; exact Heap.lt_size q
    refine en_item he hit p.isList (x := u) (by simpa using hu) hne fun h' ho hit' hT hsz hk => ?_
    refine ⟨_, rfl, wpAny_letOwnedTupleGo_enum (s := { s with heap := h', toks := s.toks + 1 }) ho fun h2 he2 sb => ?_⟩
    have hT2 : h2.get? s.heap.objs.size = some { cls := .type "tuple", data := .seq #[.int (c + (i : Nat)) s.toks, u] } := (sb.2 _ (Nat.ne_of_gt le)).trans hT
    have new : ObjOk X.prog X.w (upd H s.heap.objs.size (.tup [.int (c + (i : Nat)), x])) h2 s.heap.objs.size (.tup [.int (c + (i : Nat)), x]) :=
      ⟨by show 2 ≤ sizeLine; decide, [.int (c + (i : Nat)) s.toks, u], .cons ⟨_, rfl⟩ (.cons ru .nil), ⟨_, hT2, rfl, _, rfl⟩⟩
    have I1 : Inv X pins σ (upd H s.heap.objs.size (.tup [.int (c + (i : Nat)), x])) { s with heap := h2, toks := s.toks + 1 } :=
      I.turnedNew (ch := [e, it]) (fun b ob hb q => (sb.2 b (fun z => hb (by simp [z]))).trans (hk b ob (fun z => hb (by simp [z])) (fun z => hb (by simp [z])) q)) hf (Nat.le_refl _) new
    refine ⟨.ref s.heap.objs.size, _, I1, rfl, ⟨_, x, rfl, I.hok.fresh (Nat.le_refl _), rfl, fun ys hy => by rw [I.list_inj hy hq]; exact hx⟩, ⟨⟨u, ?_⟩, hit'.at fun o q => (sb.2 it (Ne.symm hne)).trans q, hne⟩, fun b hb => ?_⟩
    · have e1 : c + ((i + 1 : Nat) : Int) = c + (i : Int) + 1 := by omega
      rw [e1]; exact he2
    · have hb' : b < s.heap.objs.size := by
        rcases (show b = e ∨ b = it by simpa using hb) with z | z
        · rw [z]; exact le
        · rw [z]; exact li
      rw [upd_ne (Nat.ne_of_lt hb')]
      exact (hf b hb).1
  done := by
    intro X hP hw hK hc i pins s σ H E I hf st hg
    subst hP hw hK
    obtain ⟨⟨old, he⟩, hit, hne⟩ := st
    obtain ⟨xs, hq, hx⟩ := hg
    obtain ⟨its, rv, p, hz⟩ := I.list hq
    obtain ⟨f0, f1, f2, f3, f4, f5⟩ := hf it (by simp)
    have hl := rv.length
    exact en_stop (I.ok.hd hc) he hit p.isList (by simp; omega) fun h' eb => ⟨rfl, I.turned (t' := s.toks) (fun b o hb q => eb b o hb q) f0 f1 f3 f4 f5⟩
  self := fun A i s Q E st h => let ⟨⟨_, he⟩, _⟩ := st; wpAny_pyIter_enum he h
def iEnumS (K : PySem.W.Frag) (ta : TA) : TI := fun σ H R => ta σ H fun vs H1 => ∃ a xs c, vs = [.ref a, .int c] ∧ SqL K H1 a xs ∧ (0 ≤ c ∧ c ≤ 100000000) ∧ R (ItS K a c) H1
theorem pi_enumS {X : Cx} {e e2 : Expr} {ta : TA} {p pos tpos : Pos} {elts : List Expr} {kk : Nat} (hg : Gl X "enumerate") (hm : X.mg "enumerate" = none) (ha : PA X [e, e2] ta)
    (hs : starEach [e, e2] X.env = (false, eval e X.env) :: starEach [e2] X.env := by rfl) (hpl : (backTo pos (starEach [e2] X.env)).any (·.1) = false := by rfl) :
    PI X (.Tuple elts kk tpos) (.Call (.Name "enumerate" p) [e, e2] [] pos) (iEnumS X.K ta) := by
  refine ⟨fun pins s σ H R I h => ?_⟩
  refine Call_ (ld_blt I hg hm boot_enumerate (PyProof.Rows.callWith_type1 (thn (ha.run pos pins s σ H _ I h) fun us s1 ⟨vs, H1, I1, r1, q1⟩ => ?_) hs hpl))
  obtain ⟨a, xs, c, ex, hq, hc, q⟩ := q1
  subst ex
  cases r1 with
  | cons r rr =>
    cases rr with
    | cons r2 rr =>
      cases rr
      cases r
      obtain ⟨t, rfl⟩ := r2
      obtain ⟨its, rv, p', hz⟩ := I1.list hq
      have hf : Builtin.SmallTypes.fitsIndex c = true := by
        unfold Builtin.SmallTypes.fitsIndex
        simp
        omega
      refine e2_make p'.isList hf fun h' he hit hk => wpAny_pyIter_enum he ?_
      have I2 : Inv X pins σ H1 { s1 with heap := h' } := I1.kept (t' := s1.toks) hk
      refine ⟨s1.heap.objs.size + 1, [s1.heap.objs.size + 1, s1.heap.objs.size], _, _, H1, rfl, I2, turn_enS a (s1.heap.objs.size + 1) s1.heap.objs.size c, ⟨⟨.none, by rw [show c + ((0 : Nat) : Int) = c by omega]; exact he⟩, hit, Nat.succ_ne_self _⟩, fun b hb => ?_, q⟩
      have hle : s1.heap.objs.size ≤ b := by
        rcases (show b = s1.heap.objs.size + 1 ∨ b = s1.heap.objs.size by simpa using hb) with z | z
        · rw [z]; exact Nat.le_add_right _ _
        · rw [z]; exact Nat.le_refl _
      exact I1.fpOk hle (I1.hok.fresh hle)
/-- a loop over enumerate(xs, c) -/
theorem for_enS {K : PySem.W.Frag} {a : Addr} {c : Int} {xs : List V} {g : TG} {tb : TS} {nx : L2.St → Hp → Prop} {rt : VK} {σ : L2.St} {H : Hp} (Pv : Nat → L2.St → Hp → Prop) (h0 : Pv 0 σ H) (hl : ∀ i σ H, i ≤ xs.length → Pv i σ H → SqL K H a xs)
    (hs : ∀ i x (T : Addr) σ H, xs[i]? = some x → Pv i σ H → H T = none → g (.ref T) σ (upd H T (.tup [.int (c + (i : Nat)), x])) fun σ2 H2 => tb { nx := Pv (i + 1), rt := rt, bk := nx, ct := Pv (i + 1) } σ2 H2) (hd : ∀ σ H, Pv xs.length σ H → nx σ H) :
    ∃ W : Nat → Nat → L2.St → Hp → Prop, (∃ m, W 0 m σ H) ∧ ∀ i m σ H, W i m σ H → ((ItS K a c).stop i H ∧ nx σ H) ∨ ((ItS K a c).go i H ∧ ∃ N : L2.St → Hp → Prop, (∀ σ' H', N σ' H' → ∃ m', m' < m ∧ W (i + 1) m' σ' H') ∧
      ∀ v H', (ItS K a c).yld i H v H' → g v σ H' fun σ2 H2 => tb { nx := N, rt := rt, bk := nx, ct := N } σ2 H2) := by
  refine ⟨fun i r σ H => r = xs.length - i ∧ i ≤ xs.length ∧ Pv i σ H, ⟨xs.length, rfl, Nat.zero_le _, h0⟩, ?_⟩
  rintro i _ σ H ⟨rfl, hi, p⟩
  have q := hl i σ H hi p
  by_cases hlt : i < xs.length
  · have hx : xs[i]? = some xs[i] := List.getElem?_eq_getElem hlt
    refine .inr ⟨⟨xs, _, q, hx⟩, Pv (i + 1), fun σ' H' p' => ⟨xs.length - (i + 1), by omega, rfl, hlt, p'⟩, fun v H' y => ?_⟩
    obtain ⟨T, x', rfl, hT, rfl, f1⟩ := y
    exact hs i x' T σ H (f1 xs q) p hT
  · have e : i = xs.length := by omega
    subst e
    exact .inl ⟨⟨xs, q, Nat.le_refl _⟩, hd σ H p⟩

/-! ### sorted(d) of a dict whose keys are ints, any number of them -/
def rSortedDA : List V → Hp → VK → Prop := fun xs H Q => ∃ (a : Addr) (kvs : List (Key × V)) (ks : List Int), xs = [.ref a] ∧ Rd H a (.dK kvs) ∧ kvs.map (·.1) = ks.map Sum.inl ∧ ks.length ≤ 100000 ∧
  ∀ (ys : List Int) (p : Addr), ys.Perm ks → ys.Pairwise (· ≤ ·) → H p = none → Q (.ref p) (upd H p (.lst (ys.map V.int)))
theorem cr_sortedDA {X : Cx} (hcalm : X.calm = true) : CallR X (.builtin "sorted") rSortedDA := by
  intro pins s σ H xs us Q I r q
  obtain ⟨a, kvs, ks, rfl, hd, hks, hlk, q⟩ := q
  obtain ⟨u, rfl, rx⟩ := vals1 r
  cases rx
  obtain ⟨z, lo, vs, rel, dd⟩ := dk_rd I.hok hd
  obtain ⟨ep, hat⟩ := dd.dictAt
  have keys : vs.map (·.1) = ks.map Sum.inl := rel.keys.symm.trans hks
  have len : vs.length = ks.length := by simpa using congrArg List.length keys
  have lim : ks.length ≤ sizeLine := Nat.le_trans hlk (by decide)
  refine Calls.call_function_entry PyProof.Rows.kind_sorted PyProof.Rows.plain_sorted PyProof.Rows.entry_sorted (PyProof.Rows.args_sorted1 _) ?_
  unfold Builtin.«sorted»
  refine wpAny_bind (m := checkCount "sorted" 1 1 _) (wpAny_pure (wpAny_bind (PySem.W.kdu_collect (A := X.A.in1) (PySem.W.kdl_dict (knd := mixKind X.prog X.w) (kvs := vs) (ep := ep) lo) (I.ok.hd hcalm) hat (by rw [len]; exact lim) fun h' tk acc hk hacc => ?_)))
  have alen : acc.toList.length = ks.length := by rw [Array.length_toList, hacc.1, len]
  have hI2 : IntsAre acc.toList ks := ints_each alen fun j v e => by
    obtain ⟨k, x, e1, e2⟩ := hacc.2 j v (by rw [← Array.getElem?_toList]; exact e)
    have e3 : (ks.map Sum.inl : List Key)[j]? = some k := by rw [← keys, List.getElem?_map, e1]; rfl
    rw [List.getElem?_map] at e3
    cases e4 : ks[j]? with
    | none => rw [e4] at e3; cases e3
    | some y =>
      rw [e4] at e3
      obtain rfl : Sum.inl y = k := Option.some.inj e3
      rcases keyIs_shape (show keyIs (Sum.inl y) v = true from e2) with ⟨i, t, ek, ev⟩ | ⟨z, t, ek, ev⟩
      · cases ek; exact ⟨y, t, rfl, ev⟩
      · cases ek
  have I1 : Inv X pins σ H { s with heap := h', toks := tk } := I.kept hk
  refine wpAny_bind (wpAny_newList ?_ (by rw [alen]; exact lim))
  have new : (h'.push (seqObj "list" acc.toList.toArray 0)).get? h'.objs.size = some (seqObj "list" acc.toList.toArray 0) := Heap.get?_push_size _ rfl
  show wpAny _ _ _ _ _ { s with heap := h'.push (seqObj "list" acc.toList.toArray 0), toks := tk }
  refine wpAny_bind (wpAny_holding (wpAny_call_entry PyProof.Rows.slot_list_sort ⟨_, new, rfl⟩ PyProof.Rows.entry_list_sort (PyProof.Rows.list_sort_treeAny (s := { s with heap := h'.push (seqObj "list" acc.toList.toArray 0), toks := tk }) new hI2 (by rw [alen]; exact lim) fun out ys g1 g2 g3 => ⟨_, rfl, ?_⟩)
    (PyProof.Rows.args_list_sort _)))
  obtain ⟨ep2, he2⟩ := PyProof.Rows.sortedHeap_at (vs := acc.toList) (out := out) new
  have ylen : (ys.map V.int).length ≤ sizeLine := by rw [List.length_map, g2.length_eq]; exact lim
  refine wpAny_pure ⟨_, rfl, .ref h'.objs.size, upd H h'.objs.size (.lst (ys.map V.int)), I1.laid (t' := tk) (fun b u e => ?_) (Nat.le_refl _) (show ObjOk X.prog X.w _ _ _ (.lst (ys.map V.int)) from ⟨ylen, out.toList, ep2, vals_of_ints g1, by rw [Array.toArray_toList]; exact he2⟩), rfl, q ys _ g2 g3 (I1.hok.fresh (Nat.le_refl _))⟩
  have hb : b < h'.objs.size := Heap.lt_size e
  rw [PyProof.Rows.sortedHeap_old (Nat.ne_of_lt hb) (by rw [size_push']; exact Nat.lt_succ_of_lt hb)]
  exact Heap.get?_push_of_some _ e

/-! ### dicts from ints to ints -/
abbrev IM := List (Int × Int)
def kvI (m : IM) : List (Key × V) := m.map fun p => ((Sum.inl p.1 : Key), V.int p.2)
def gtI : IM → Int → Option Int
  | [], _ => none
  | p :: r, i => if p.1 = i then some p.2 else gtI r i
def ptI : IM → Int → Int → IM
  | [], i, b => [(i, b)]
  | p :: r, i, b => if p.1 = i then (i, b) :: r else p :: ptI r i b
def drI (m : IM) (i : Int) : IM := m.filter fun p => decide (p.1 ≠ i)
/-- no key twice -/
def Nd (m : IM) : Prop := (m.map (·.1)).Nodup
theorem valV_kvI : ∀ (m : IM) (i : Int), valV (kvI m) (Sum.inl i : Key) = (gtI m i).map V.int
  | [], _ => rfl
  | p :: r, i => by
    by_cases h : p.1 = i
    · rw [show kvI (p :: r) = ((Sum.inl p.1 : Key), V.int p.2) :: kvI r from rfl, valV_pos (by rw [h]), gtI, if_pos h]; rfl
    · rw [show kvI (p :: r) = ((Sum.inl p.1 : Key), V.int p.2) :: kvI r from rfl, valV_neg (fun z => h (Sum.inl.inj z)), gtI, if_neg h, valV_kvI r i]
theorem gtI_mem : ∀ {m : IM} {i b : Int}, gtI m i = some b → (i, b) ∈ m
  | [], _, _, h => by cases h
  | p :: r, i, b, h => by
    unfold gtI at h
    by_cases e : p.1 = i
    · rw [if_pos e] at h
      cases h
      exact List.mem_cons.mpr (.inl (by rw [← e]))
    · rw [if_neg e] at h
      exact List.mem_cons_of_mem _ (gtI_mem h)
theorem gtI_of_mem : ∀ {m : IM} {i b : Int}, Nd m → (i, b) ∈ m → gtI m i = some b
  | p :: r, i, b, hn, h => by
    unfold Nd at hn
    rw [List.map_cons, List.nodup_cons] at hn
    unfold gtI
    rcases List.mem_cons.mp h with rfl | h
    · rw [if_pos rfl]
    · rw [if_neg (fun e => hn.1 (List.mem_map.mpr ⟨(i, b), h, e.symm⟩))]
      exact gtI_of_mem hn.2 h
theorem gtI_none {m : IM} {i : Int} : gtI m i = none ↔ ∀ b, (i, b) ∉ m := by
  induction m with
  | nil => exact ⟨fun _ b z => (nomatch z), fun _ => rfl⟩
  | cons p r ih =>
    unfold gtI
    by_cases e : p.1 = i
    · rw [if_pos e]
      exact ⟨fun z => (nomatch z), fun z => absurd (show (i, p.2) ∈ p :: r from List.mem_cons.mpr (.inl (by rw [← e]))) (z p.2)⟩
    · rw [if_neg e, ih]
      refine ⟨fun h b z => ?_, fun h b z => h b (List.mem_cons_of_mem _ z)⟩
      rcases List.mem_cons.mp z with z | z
      · exact e (by rw [← z])
      · exact h b z
theorem ptI_old : ∀ {m : IM} {i b : Int}, gtI m i ≠ none → Nd m → ptI m i b = m.map fun p => if p.1 = i then (i, b) else p
  | [], _, _, h, _ => absurd rfl h
  | p :: r, i, b, h, hn => by
    unfold Nd at hn
    rw [List.map_cons, List.nodup_cons] at hn
    unfold ptI
    by_cases e : p.1 = i
    · rw [if_pos e, List.map_cons, if_pos e]
      congr 1
      refine (List.map_congr_left (g := id) fun q hq => ?_).trans (List.map_id _) |>.symm
      rw [if_neg (fun z => hn.1 (List.mem_map.mpr ⟨q, hq, by rw [z, e]⟩))]; rfl
    · rw [if_neg e, List.map_cons, if_neg e]
      unfold gtI at h
      rw [if_neg e] at h
      rw [ptI_old h hn.2]
theorem ptI_new : ∀ {m : IM} {i b : Int}, gtI m i = none → ptI m i b = m ++ [(i, b)]
  | [], _, _, _ => rfl
  | p :: r, i, b, h => by
    unfold gtI at h
    by_cases e : p.1 = i
    · rw [if_pos e] at h; cases h
    · rw [if_neg e] at h
      unfold ptI
      rw [if_neg e, ptI_new h]; rfl
theorem putK_kvI {m : IM} {i b : Int} (hn : Nd m) : putK (kvI m) (Sum.inl i : Key) (.int b) = kvI (ptI m i b) := by
  unfold putK
  rw [valV_any, valV_kvI]
  cases h : gtI m i with
  | none =>
    rw [if_neg (by simp), ptI_new h]
    unfold kvI
    rw [List.map_append]; rfl
  | some c =>
    rw [if_pos (by simp), ptI_old (by rw [h]; simp) hn]
    unfold kvI
    rw [List.map_map, List.map_map]
    refine List.map_congr_left fun p _ => ?_
    show (if (Sum.inl p.1 : Key) = Sum.inl i then ((Sum.inl p.1 : Key), V.int b) else ((Sum.inl p.1 : Key), V.int p.2)) = _
    by_cases e : p.1 = i
    · rw [if_pos (by rw [e])]
      show _ = ((Sum.inl (if p.1 = i then (i, b) else p).1 : Key), V.int (if p.1 = i then (i, b) else p).2)
      rw [if_pos e, e]
    · rw [if_neg (fun z => e (Sum.inl.inj z))]
      show _ = ((Sum.inl (if p.1 = i then (i, b) else p).1 : Key), V.int (if p.1 = i then (i, b) else p).2)
      rw [if_neg e]
theorem dropK_kvI (m : IM) (i : Int) : dropK (kvI m) (Sum.inl i : Key) = kvI (drI m i) := by
  unfold dropK drI kvI
  rw [List.filter_map]
  congr 1
  refine List.filter_congr fun p _ => ?_
  show decide ((Sum.inl p.1 : Key) ≠ Sum.inl i) = decide (p.1 ≠ i)
  rw [Bool.eq_iff_iff]
  simp
theorem gtI_pt : ∀ (m : IM) (i b j : Int), gtI (ptI m i b) j = if i = j then some b else gtI m j
  | [], i, b, j => rfl
  | p :: r, i, b, j => by
    unfold ptI
    by_cases e : p.1 = i
    · rw [if_pos e]
      show (if i = j then some b else gtI r j) = if i = j then some b else (if p.1 = j then some p.2 else gtI r j)
      by_cases h : i = j
      · rw [if_pos h, if_pos h]
      · rw [if_neg h, if_neg h, if_neg (by rw [e]; exact h)]
    · rw [if_neg e]
      show (if p.1 = j then some p.2 else gtI (ptI r i b) j) = if i = j then some b else (if p.1 = j then some p.2 else gtI r j)
      rw [gtI_pt r]
      by_cases h : i = j
      · rw [if_pos h, if_pos h, if_neg (by rw [← h]; exact e)]
      · rw [if_neg h, if_neg h]
theorem gtI_dr : ∀ (m : IM) (i j : Int), gtI (drI m i) j = if i = j then none else gtI m j
  | [], i, j => by simp [drI, gtI]
  | p :: r, i, j => by
    have ih := gtI_dr r i j
    unfold drI at ih ⊢
    rw [List.filter_cons]
    by_cases e : p.1 = i
    · rw [if_neg (by simp [e]), ih]
      by_cases h : i = j
      · rw [if_pos h, if_pos h]
      · rw [if_neg h, if_neg h, gtI, if_neg (by rw [e]; exact h)]
    · rw [if_pos (by simp [e]), gtI, ih, gtI]
      by_cases h : i = j
      · rw [if_pos h, if_pos h, if_neg (by rw [← h]; exact e)]
      · rw [if_neg h, if_neg h]
theorem nd_pt : ∀ {m : IM} {i b : Int}, Nd m → Nd (ptI m i b)
  | [], i, b, _ => by simp [Nd, ptI]
  | p :: r, i, b, h => by
    unfold Nd at h
    rw [List.map_cons, List.nodup_cons] at h
    unfold ptI
    by_cases e : p.1 = i
    · rw [if_pos e]
      unfold Nd
      rw [List.map_cons, List.nodup_cons, ← e]
      exact h
    · rw [if_neg e]
      have ih := nd_pt (m := r) (i := i) (b := b) h.2
      unfold Nd
      rw [List.map_cons, List.nodup_cons]
      refine ⟨fun z => ?_, ih⟩
      obtain ⟨q, hq, eq⟩ := List.mem_map.mp z
      have g : gtI (ptI r i b) p.1 ≠ none := fun y => (gtI_none.mp y) q.2 (by rw [← eq]; exact hq)
      rw [gtI_pt, if_neg (fun y => e y.symm)] at g
      obtain ⟨c, hc⟩ := Option.ne_none_iff_exists'.mp g
      exact h.1 (List.mem_map.mpr ⟨(p.1, c), gtI_mem hc, rfl⟩)
theorem nd_dr {m : IM} {i : Int} (h : Nd m) : Nd (drI m i) := by
  unfold Nd drI at *
  exact h.sublist (List.Sublist.map _ List.filter_sublist)
theorem len_pt (m : IM) (i b : Int) : (ptI m i b).length ≤ m.length + 1 := by
  induction m with
  | nil => exact Nat.le_refl _
  | cons p r ih =>
    unfold ptI
    split
    · exact Nat.le_succ _
    · show (ptI r i b).length + 1 ≤ r.length + 1 + 1
      omega
theorem len_dr (m : IM) (i : Int) : (drI m i).length ≤ m.length := List.length_filter_le _ _

/-! ### e.f in a comprehension -/
theorem pe_fldB {X : Cx} {s : Shared} {H : Hp} {sc : Scope} {en : Env} {fp : List Addr} {e : Expr} {f : Str} {pos : Pos} {ta : TE} (he : PE (X.blk s H sc en fp) e ta) (hb : attributeBase e f (X.blk s H sc en fp).env (eval e (X.blk s H sc en fp).env) = eval e (X.blk s H sc en fp).env) :
    PE (X.blk s H sc en fp) (.Attribute e f pos) (tFld X.K ta f) := pe_fld he hb

/-! ### a tape of numbers made from the script, and draws from it -/
def Nn (ts : List Int) : Prop := ∀ x ∈ ts, 0 ≤ x
theorem nn_nil : Nn [] := fun _ h => nomatch h
theorem Nn.snoc {ts : List Int} (h : Nn ts) {x : Int} (hx : 0 ≤ x) : Nn (ts ++ [x]) := fun y hy => by
  rcases List.mem_append.mp hy with hy | hy
  · exact h y hy
  · rw [List.mem_singleton] at hy; omega
def LstT (H : Hp) (Q : VK) (xs : List Int) : Prop := ∀ p H', Same H H' → H p = none → H' p = some (.lst (xs.map V.int)) → Q (.ref p) H'
def sp__law_tape (K : PySem.W.Frag) (cs : Cs) : Sp := fun vs H Q _ => ∃ (a : Addr) (ns : List Int), vs = [.ref a] ∧ SqL K H a (ns.map V.int) ∧ ns.length ≤ 63 ∧ ∀ ts : List Int, Nn ts → ts.length ≤ 2520 → LstT H Q ts
def sp__law_draw (K : PySem.W.Frag) (cs : Cs) : Sp := fun vs H Q _ => ∃ (a : Addr) (ts : List Int) (p : Int) (m : Int), vs = [.ref a, .int p, .int m] ∧ SqL K H a (ts.map V.int) ∧ (0 ≤ p ∧ p ≤ 1000000) ∧ 0 < m ∧ ∀ v : Int, 0 ≤ v → v < m → Q (.int v) H
section
variable {P : Program} {w : World} {K : PySem.W.Frag} {mg : Str → Option Value} {base : Heap} {cs : Cs}
theorem c__law_tape (D : Def K mg "_law_tape" s__law_tape ["script"]) (T : Tp w K mg cs)  : Cal P w K mg base CX0 1 "_law_tape" (sp__law_tape K cs) := by
  refine D.ok sc__law_tape (fun vs H Q E h => ?_) (fun f cdv A outer s H vs Q E hr h => ?_)
  · obtain ⟨a, ns, rfl, _⟩ := h; rfl
  · obtain ⟨a, ns, rfl, hS, hlen, q⟩ := h
    refine ⟨_, (pss_cons (ps_set (i := 1) sc__law_tape.nd rfl (by first | exact Or.inl rfl | exact Or.inr rfl) (pe_lst pa_nil))
      (pss_cons (ps_for PassesOwn.never rfl (pi_list (pv 0)) (pg_name (i := 2) sc__law_tape.nd rfl (by first | exact Or.inl rfl | exact Or.inr rfl)) (pss_cons (ps_set (i := 3) sc__law_tape.nd rfl (by first | exact Or.inl rfl | exact Or.inr rfl) (pe_op op_mul pe_int (pe_callTy call_int1 (by rfl) T.m_int (by decide +kernel) (pa_cons (pv 2) pa_nil))))
      (C8.pss_cut (ps_if (pt_cmpR op_lt (pv 3) pe_int (by first | rfl | exact nomark _)) (pss_one (ps_set (i := 3) sc__law_tape.nd rfl (by first | exact Or.inl rfl | exact Or.inr rfl) (pe_op op_sub (pe_un un_neg pe_int) (pv 3)))) pss_nil)
      (pss_one (ps_if (pt_cmpR op_ge (pv 3) (pe_op op_pow pe_int pe_int) (by first | rfl | exact nomark _)) (pss_one (ps_for PassesOwn.never rfl (pi_range1 (by rfl) T.m_range (pa_cons pe_int pa_nil)) (pg_name (i := 4) sc__law_tape.nd rfl (by first | exact Or.inl rfl | exact Or.inr rfl)) (pss_one (ps_if (pt_cmpR op_gt (pv 3) pe_int (by first | rfl | exact nomark _)) (pss_cons (ps_expr (pe_bm PySem.F.plainAttrs_list PySem.F.slot_list_append PySem.F.type_list_append mt_append (pv 1) (pa_cons (pe_op op_mod (pe_callTy call_int1 (by rfl) T.m_int (by decide +kernel) (pa_cons (pv 3) pa_nil)) pe_int) pa_nil)))
      (pss_one (ps_set (i := 3) sc__law_tape.nd rfl (by first | exact Or.inl rfl | exact Or.inr rfl) (pe_op op_fdiv (pv 3) pe_int)))) pss_nil)))) (pss_one (ps_for PassesOwn.never rfl (pi_range1 (by rfl) T.m_range (pa_cons pe_int pa_nil)) (pg_name (i := 4) sc__law_tape.nd rfl (by first | exact Or.inl rfl | exact Or.inr rfl)) (pss_cons (ps_set (i := 5) sc__law_tape.nd rfl (by first | exact Or.inl rfl | exact Or.inr rfl) (pe_op op_mod (pe_callTy call_int1 (by rfl) T.m_int (by decide +kernel) (pa_cons (pe_op op_add (pe_op op_add (pe_op op_mul (pv 3) pe_int) (pe_op op_mul (pv 4) pe_int)) pe_int) pa_nil)) pe_int))
      (pss_one (ps_expr (pe_bm PySem.F.plainAttrs_list PySem.F.slot_list_append PySem.F.type_list_append mt_append (pv 1) (pa_cons (pe_op op_mod (pe_callTy call_int1 (by rfl) T.m_int (by decide +kernel) (pa_cons (pe_op op_add (pe_op op_mul (pv 5) pe_int) (pe_op op_fdiv (pv 5) pe_int)) pa_nil)) pe_int) pa_nil))))))))))))
      (pss_one (ps_ret (pv 1))))), ?_⟩
    walk_at "go"
    intro p hp
    generalize e1 : upd H p (.lst []) = H1
    obtain ⟨s1, k1⟩ : Same H H1 ∧ H1 p = some (.lst (([] : List Int).map V.int)) := by subst e1; exact ⟨Same.new hp, upd_same⟩
    refine ⟨_, rfl, a, rfl, ⟨_, s1.seq hS⟩, for_listD (xs := ns.map V.int) (fun i σ H2 => ∃ (ts : List Int) (o2 o3 o4 o5 : Option V), σ = [some (.ref a), some (.ref p), o2, o3, o4, o5] ∧ Nn ts ∧ ts.length ≤ 40 * i ∧ Same H H2 ∧ H2 p = some (.lst (ts.map V.int)))
      ⟨[], _, _, _, _, rfl, nn_nil, Nat.le_refl _, s1, k1⟩ (fun i σ H2 _ h => by obtain ⟨ts, o2, o3, o4, o5, _, _, _, s2, _⟩ := h; exact s2.seq hS) ?_ ?_⟩
    · rintro i x _ H2 hx ⟨ts, o2, o3, o4, o5, rfl, hN, hl, s2, k2⟩
      obtain ⟨n, rfl⟩ : ∃ n, x = .int n := by
        rw [List.getElem?_map] at hx
        cases e : ns[i]? with
        | none => rw [e] at hx; cases hx
        | some k => rw [e] at hx; cases hx; exact ⟨k, rfl⟩
      have hi : i < ns.length := by
        have := (List.getElem?_eq_some_iff.mp hx).1
        rw [List.length_map] at this; exact this
      walk_at "go"
      refine ⟨fun σ H3 => H2 = H3 ∧ ∃ m : Int, 0 ≤ m ∧ σ = [some (.ref a), some (.ref p), some (.int n), some (.int m), o4, o5], ?_, ?_⟩
      · walk_at "go"
        refine ite2 (fun c => ?_) (fun c => ?_)
        · have c' : 2 * n < 0 := of_decide_eq_true c
          walk_at "go"
          exact ⟨_, by omega, rfl⟩
        · have c' : ¬ 2 * n < 0 := of_decide_eq_false (Bool.eq_false_iff.mpr c)
          exact ⟨rfl, _, by omega, rfl⟩
      rintro _ _ ⟨rfl, m, hm, rfl⟩
      walk_at "go"
      refine ite2 (fun c => ?_) (fun c => ?_)
      · refine ⟨_, rfl, by decide, by decide, for_rangeD (lo := 0) (n := 40) (fun j σ H3 => ∃ (ts' : List Int) (m' : Int) (o : Option V), σ = [some (.ref a), some (.ref p), some (.int n), some (.int m'), o, o5] ∧ Nn ts' ∧ ts'.length ≤ 40 * i + j ∧ Same H H3 ∧ H3 p = some (.lst (ts'.map V.int)))
          ⟨ts, m, _, rfl, hN, by omega, s2, k2⟩ ?_ ?_⟩
        · rintro j _ H3 hj ⟨ts', m', o, rfl, hN', hl', s3, k3⟩
          walk_at "go"
          refine ite2 (fun c => ?_) (fun c => ?_)
          · refine ⟨_, rfl, .inl ⟨rfl, _, SqL.of k3⟩, ?_⟩
            walk_at "go"
            refine ⟨_, _, _, rfl, rfl, k3, (by rw [List.length_map]; exact small64' (by omega)), ?_⟩
            walk_at "go"
            refine ⟨ts' ++ [m' % 1000], _, _, rfl, hN'.snoc (by omega), by rw [List.length_append, List.length_singleton]; omega, fun b o e => ?_, ?_⟩
            · rw [upd_ne (ne_of_none e hp)]; exact s3 _ _ e
            · rw [upd_same, List.map_append]; rfl
          · exact ⟨ts', m', _, rfl, hN', by omega, s3, k3⟩
        · rintro _ H3 ⟨ts', m', o, rfl, hN', hl', s3, k3⟩
          exact ⟨ts', _, _, _, _, rfl, hN', by omega, s3, k3⟩
      · refine ⟨_, rfl, by decide, by decide, for_rangeD (lo := 0) (n := 3) (fun j σ H3 => ∃ (ts' : List Int) (o o' : Option V), σ = [some (.ref a), some (.ref p), some (.int n), some (.int m), o, o'] ∧ Nn ts' ∧ ts'.length ≤ 40 * i + j ∧ Same H H3 ∧ H3 p = some (.lst (ts'.map V.int)))
          ⟨ts, _, _, rfl, hN, by omega, s2, k2⟩ ?_ ?_⟩
        · rintro j _ H3 hj ⟨ts', o, o', rfl, hN', hl', s3, k3⟩
          walk_at "go"
          refine ⟨.inl ⟨rfl, _, SqL.of k3⟩, ?_⟩
          walk_at "go"
          generalize (m * 48271 + (0 + (j : Int)) * 40503 + 11) % 2147483629 = fi
          refine ⟨_, _, _, rfl, rfl, k3, (by rw [List.length_map]; exact small64' (by omega)), ?_⟩
          walk_at "go"
          refine ⟨ts' ++ [(fi * 69621 + fi / 65536) % 2147483629], _, _, rfl, hN'.snoc (by omega), by rw [List.length_append, List.length_singleton]; omega, fun b o e => ?_, ?_⟩
          · rw [upd_ne (ne_of_none e hp)]; exact s3 _ _ e
          · rw [upd_same, List.map_append]; rfl
        · rintro _ H3 ⟨ts', o, o', rfl, hN', hl', s3, k3⟩
          exact ⟨ts', _, _, _, _, rfl, hN', by omega, s3, k3⟩
    · rintro _ H2 ⟨ts, o2, o3, o4, o5, rfl, hN, hl, s2, k2⟩
      rw [List.length_map] at hl
      walk_at "go"
      exact q ts hN (by omega) p H2 s2 hp k2
theorem c__law_draw (D : Def K mg "_law_draw" s__law_draw ["tape", "at", "many"]) (T : Tp w K mg cs)  : Cal P w K mg base CX0 1 "_law_draw" (sp__law_draw K cs) := by
  refine D.ok sc__law_draw (fun vs H Q E h => ?_) (fun f cdv A outer s H vs Q E hr h => ?_)
  · obtain ⟨a, ts, p, m, rfl, _⟩ := h; rfl
  · obtain ⟨a, ts, p, m, rfl, hS, ⟨hp0, hp⟩, hm, q⟩ := h
    obtain ⟨p, rfl⟩ := Int.eq_ofNat_of_zero_le hp0
    refine ⟨_, (pss_cons (ps_if (pt_cmpR op_lt (pv 1) (pe_callB call_len_seq (by rfl) T.m_len PySem.boot_len (pa_cons (pv 0) pa_nil)) (by first | rfl | exact nomark _)) (pss_one (ps_ret (pe_op op_mod (pe_callTy call_int1 (by rfl) T.m_int (by decide +kernel) (pa_cons (pe_ix ix_list (pv 0) (pv 1) (fun _ _ => rfl)) pa_nil)) (pv 2)))) pss_nil)
      (pss_cons (ps_set (i := 3) sc__law_draw.nd rfl (by first | exact Or.inl rfl | exact Or.inr rfl) pe_int)
      (C8.pss_cut (ps_if (pt_cmpR op_gt (pe_callB call_len_seq (by rfl) T.m_len PySem.boot_len (pa_cons (pv 0) pa_nil)) pe_int (by first | rfl | exact nomark _)) (pss_one (ps_set (i := 3) sc__law_draw.nd rfl (by first | exact Or.inl rfl | exact Or.inr rfl) (pe_ix ix_list (pv 0) (pe_op op_mod (pe_callTy call_int1 (by rfl) T.m_int (by decide +kernel) (pa_cons (pv 1) pa_nil)) (pe_callB call_len_seq (by rfl) T.m_len PySem.boot_len (pa_cons (pv 0) pa_nil))) (fun _ _ => rfl)))) pss_nil)
      (pss_one (ps_ret (pe_op op_mod (pe_op op_mod (pe_callTy call_int1 (by rfl) T.m_int (by decide +kernel) (pa_cons (pe_op op_add (pe_op op_mul (pe_op op_mul (pe_op op_add (pv 3) (pv 1)) (pe_op op_add (pv 1) pe_int)) pe_int) (pe_op op_mul (pv 1) pe_int)) pa_nil)) pe_int) (pv 2))))))), ?_⟩
    walk_at "go"
    simp only [List.length_map]
    refine ite2 (fun c => ?_) (fun c => ?_)
    · have c' : (p : Int) < ts.length := of_decide_eq_true c
      walk_at "go"
      exact q _ (Int.emod_nonneg _ (by omega)) (Int.emod_lt_of_pos _ hm)
    · walk_at "go"
      refine ⟨fun σ H2 => H = H2 ∧ ∃ n : Int, σ = [some (.ref a), some (.int p), some (.int m), some (.int n)], ?_, ?_⟩
      · walk_at "go"
        simp only [List.length_map]
        refine ite2 (fun c => ?_) (fun c => ?_)
        · have c' : (0 : Int) < ts.length := of_decide_eq_true c
          obtain ⟨k, ek, hk⟩ : ∃ k : Nat, (p : Int) % (ts.length : Int) = (k : Int) ∧ k < ts.length := ⟨p % ts.length, by omega, Nat.mod_lt _ (by omega)⟩
          walk_at "go"
          simp only [List.length_map, ek]
          refine ⟨by show (0 : Int) < ts.length; omega, ?_⟩
          walk_at "go"
          exact ⟨_, rfl⟩
        · exact ⟨rfl, _, rfl⟩
      rintro _ _ ⟨rfl, n, rfl⟩
      walk_at "go"
      exact q _ (Int.emod_nonneg _ (by omega)) (Int.emod_lt_of_pos _ hm)
end

theorem hu1 {A : Around} {k : Nat} (hr : Room k A) : A.units + 1 < cLine := by have := hr.un; omega
theorem hu0 {A : Around} {k : Nat} (hr : Room k A) : A.units < cLine := by have := hr.un; omega
theorem newO {H H' : Hp} {p : Addr} {o : HO} (h : H p = none) (e : upd H p o = H') : Same H H' ∧ H' p = some o := by subst e; exact ⟨Same.new h, upd_same⟩
theorem dr_none {m : IM} {i : Int} (h : gtI m i = none) : drI m i = m := by
  unfold drI
  refine List.filter_eq_self.mpr fun p hp => decide_eq_true fun e => ?_
  exact (gtI_none.mp h) p.2 (by rw [← e]; exact hp)
/-- one byte written -/
def w1 (m : IM) (i b : Int) : IM := if b = 0 then drI m i else ptI m i b
def wrI (m : IM) (at_ : Int) : List Int → IM
  | [] => m
  | b :: r => wrI (w1 m at_ b) (at_ + 1) r
theorem wrI_snoc : ∀ (bs : List Int) (m : IM) (a b : Int), wrI m a (bs ++ [b]) = w1 (wrI m a bs) (a + bs.length) b
  | [], m, a, b => by show w1 m a b = w1 m (a + 0) b; rw [Int.add_zero]
  | x :: r, m, a, b => by
    show wrI (w1 m a x) (a + 1) (r ++ [b]) = w1 (wrI (w1 m a x) (a + 1) r) (a + ((r.length + 1 : Nat) : Int)) b
    rw [wrI_snoc r, show a + 1 + (r.length : Int) = a + ((r.length + 1 : Nat) : Int) by omega]
theorem nd_w1 {m : IM} {i b : Int} (h : Nd m) : Nd (w1 m i b) := by
  unfold w1
  split
  · exact nd_dr h
  · exact nd_pt h
theorem len_w1 (m : IM) (i b : Int) : (w1 m i b).length ≤ m.length + 1 := by
  unfold w1
  split
  · exact Nat.le_succ_of_le (len_dr _ _)
  · exact len_pt _ _ _
theorem nd_wr : ∀ {bs : List Int} {m : IM} {a : Int}, Nd m → Nd (wrI m a bs)
  | [], _, _, h => h
  | b :: r, m, a, h => nd_wr (bs := r) (m := w1 m a b) (a := a + 1) (nd_w1 h)
theorem len_wr : ∀ (bs : List Int) (m : IM) (a : Int), (wrI m a bs).length ≤ m.length + bs.length
  | [], _, _ => Nat.le_refl _
  | b :: r, m, a => by
    have h1 := len_wr r (w1 m a b) (a + 1)
    have h2 := len_w1 m a b
    show (wrI (w1 m a b) (a + 1) r).length ≤ m.length + (r.length + 1)
    omega
/-- a memory and its cells -/
def MemO (cs : Cs) (H : Hp) (p : Addr) (pg ms : Int) (d : Addr) (m : IM) : Prop := (∃ dx, H p = some (.ins cs.C_Memory dx (fs_Memory (.int pg) (.int ms) (.ref d)))) ∧ H d = some (.dK (kvI m))
def LstI (H : Hp) (Q : VK) (xs : List Int) : Prop := ∀ p H', Same H H' → H p = none → H' p = some (.lst (xs.map V.int)) → Q (.ref p) H'
def sp_Memory___init__ (K : PySem.W.Frag) (cs : Cs) : Sp := fun vs H Q _ => ∃ (p dx : Addr) (n m : Int), vs = [.ref p, .int n, .int m] ∧ H p = some (.ins cs.C_Memory dx []) ∧ ∀ d H', MemO cs H' p n m d [] → H d = none → d ≠ p → SameBut [p] H H' → Q .non H'
def sp_Memory_size (K : PySem.W.Frag) (cs : Cs) : Sp := fun vs H Q _ => ∃ (p d : Addr) (pg ms : Int) (m : IM), vs = [.ref p] ∧ MemO cs H p pg ms d m ∧ Q (.int (pg * 65536)) H
def sp_Memory_read (K : PySem.W.Frag) (cs : Cs) : Sp := fun vs H Q _ => ∃ (p d : Addr) (pg ms : Int) (m : IM) (a : Int) (n : Nat), vs = [.ref p, .int a, .int (n : Int)] ∧ MemO cs H p pg ms d m ∧ (0 ≤ a ∧ a ≤ 100000000) ∧ n ≤ 1000 ∧ LstI H Q ((List.range n).map fun k => (gtI m (a + (k : Nat))).getD 0)
def sp_Memory_write (K : PySem.W.Frag) (cs : Cs) : Sp := fun vs H Q _ => ∃ (p d l : Addr) (pg ms : Int) (m : IM) (a : Int) (bs : List Int), vs = [.ref p, .int a, .ref l] ∧ MemO cs H p pg ms d m ∧ H l = some (.lst (bs.map V.int)) ∧ Nd m ∧ m.length ≤ 10000 ∧ bs.length ≤ 1000 ∧ (0 ≤ a ∧ a ≤ 10000000) ∧
  ∀ H', MemO cs H' p pg ms d (wrI m a bs) → SameBut [d] H H' → Q .non H'
/-- a comprehension over a range, item by item -/
theorem lc_fR {lo : Int} {n j : Nat} {te : TE} {σ : L2.St} {H1 : Hp} {D : Addr} {Qd : Hp → Prop} (f : Nat → V) (hD : H1 D = none) (hn : n ≤ 100000)
    (hs : ∀ i H Q, i < n → Same H1 H → (∀ H', Same H H' → Q (f i) H') → te ((σ.set j none).set j (some (.int (lo + i)))) H Q) (hd : ∀ H, Same H1 H → H D = some (.lst ((List.range n).map f)) → Qd H) :
    ∃ W : Nat → Nat → Hp → Prop, (∃ m, W 0 m (upd H1 D (.lst []))) ∧ ∀ i m H, W i m H →
      ((Itr lo n).stop i H ∧ Qd H) ∨ ((Itr lo n).go i H ∧ ∃ Nx : Hp → Prop, (∀ H', Nx H' → ∃ m', m' < m ∧ W (i + 1) m' H') ∧ ∀ x H', (Itr lo n).yld i H x H' → gName j x (wipe σ [j]) H' fun σ2 H2 => wipe σ2 [j] = wipe σ [j] ∧ tYes σ2 H2 fun b H3 =>
        if b = true then te σ2 H3 fun y H4 => ∃ acc, H4 D = some (.lst acc) ∧ acc.length < sizeLine ∧ Nx (upd H4 D (.lst (acc ++ [y]))) else Nx H3) := by
  refine lc_range (fun i H => Same H1 H ∧ H D = some (.lst ((List.range i).map f))) ⟨Same.new hD, upd_same⟩ (fun i H hi h => ?_) (fun H h => hd H h.1 h.2)
  obtain ⟨s, hk⟩ := h
  refine ⟨by show (((σ.set j none).set j (some (V.int (lo + i)))).set j none) = σ.set j none; rw [List.set_set, List.set_set], ?_⟩
  simp only [tYes, if_true]
  refine hs i H _ hi s fun H' s' => ⟨_, s' _ _ hk, by rw [List.length_map, List.length_range]; exact small64' (by omega), fun b o e => ?_, ?_⟩
  · have nb : b ≠ D := fun z => by rw [z, hD] at e; cases e
    rw [upd_ne nb]; exact s' _ _ (s _ _ e)
  · rw [upd_same, List.range_succ, List.map_append]; rfl
theorem ints_at {xs : List Int} {i : Nat} {x : V} (hx : (xs.map V.int)[i]? = some x) : ∃ b, xs[i]? = some b ∧ x = .int b := by
  rw [List.getElem?_map] at hx
  cases e : xs[i]? with
  | none => rw [e] at hx; cases hx
  | some b => rw [e] at hx; cases hx; exact ⟨b, rfl, rfl⟩
def Rel (m mm : IM) : Prop := ∀ i, (gtI m i).getD 0 = (gtI mm i).getD 0
def NZ (m : IM) : Prop := ∀ p ∈ m, p.2 ≠ 0
def sp__law_is_int (K : PySem.W.Frag) (cs : Cs) : Sp := fun vs H Q _ => ∃ n : Int, vs = [.int n] ∧ Q (.bl true) H
def sp__law_same_ints (K : PySem.W.Frag) (cs : Cs) : Sp := fun vs H Q _ => ∃ (a b : Addr) (xs : List Int), vs = [.ref a, .ref b] ∧ H a = some (.lst (xs.map V.int)) ∧ H b = some (.lst (xs.map V.int)) ∧ xs.length ≤ 1000 ∧ Q (.bl true) H
def sp__law_place (K : PySem.W.Frag) (cs : Cs) : Sp := fun vs H Q _ => ∃ (a : Addr) (ts : List Int) (p most last : Int), vs = [.ref a, .int p, .int most, .int last] ∧ SqL K H a (ts.map V.int) ∧ (0 ≤ p ∧ p ≤ 900000) ∧ 0 ≤ most ∧ ∀ v, 0 ≤ v → v ≤ most → Q (.int v) H
def sp__law_byte (K : PySem.W.Frag) (cs : Cs) : Sp := fun vs H Q _ => ∃ (a : Addr) (ts : List Int) (p : Int), vs = [.ref a, .int p] ∧ SqL K H a (ts.map V.int) ∧ (0 ≤ p ∧ p ≤ 900000) ∧ ∀ v, 0 ≤ v → v ≤ 255 → Q (.int v) H
def sp__law_window (K : PySem.W.Frag) (cs : Cs) : Sp := fun vs H Q _ => ∃ (p d q : Addr) (pg ms : Int) (m mm : IM) (a n z : Int), vs = [.ref p, .ref q, .int a, .int n, .int z] ∧ MemO cs H p pg ms d m ∧ H q = some (.dK (kvI mm)) ∧ Rel m mm ∧ (0 ≤ a ∧ a ≤ z ∧ z ≤ 10000000) ∧ (0 ≤ n ∧ n ≤ 100) ∧ ∀ H', Same H H' → Q (.bl true) H'
/-- the model's puts, one by one -/
def ptsI (m : IM) (at_ : Int) : List Int → IM
  | [] => m
  | b :: r => ptsI (ptI m at_ b) (at_ + 1) r
theorem ptsI_snoc : ∀ (bs : List Int) (m : IM) (a b : Int), ptsI m a (bs ++ [b]) = ptI (ptsI m a bs) (a + bs.length) b
  | [], m, a, b => by show ptI m a b = ptI m (a + 0) b; rw [Int.add_zero]
  | x :: r, m, a, b => by
    show ptsI (ptI m a x) (a + 1) (r ++ [b]) = ptI (ptsI (ptI m a x) (a + 1) r) (a + ((r.length + 1 : Nat) : Int)) b
    rw [ptsI_snoc r, show a + 1 + (r.length : Int) = a + ((r.length + 1 : Nat) : Int) by omega]
theorem nd_pts : ∀ {bs : List Int} {m : IM} {a : Int}, Nd m → Nd (ptsI m a bs)
  | [], _, _, h => h
  | b :: r, m, a, h => nd_pts (bs := r) (m := ptI m a b) (a := a + 1) (nd_pt h)
theorem len_pts : ∀ (bs : List Int) (m : IM) (a : Int), (ptsI m a bs).length ≤ m.length + bs.length
  | [], _, _ => Nat.le_refl _
  | b :: r, m, a => by
    have h1 := len_pts r (ptI m a b) (a + 1)
    have h2 := len_pt m a b
    show (ptsI (ptI m a b) (a + 1) r).length ≤ m.length + (r.length + 1)
    omega
theorem rel_w1 {m mm : IM} {i b : Int} (h : Rel m mm) : Rel (w1 m i b) (ptI mm i b) := by
  intro j
  rw [gtI_pt]
  unfold w1
  by_cases hb : b = 0
  · rw [if_pos hb, gtI_dr]
    by_cases e : i = j
    · rw [if_pos e, if_pos e, hb]; rfl
    · rw [if_neg e, if_neg e]; exact h j
  · rw [if_neg hb, gtI_pt]
    by_cases e : i = j
    · rw [if_pos e, if_pos e]
    · rw [if_neg e, if_neg e]; exact h j
theorem rel_wr : ∀ {bs : List Int} {m mm : IM} {a : Int}, Rel m mm → Rel (wrI m a bs) (ptsI mm a bs)
  | [], _, _, _, h => h
  | b :: r, m, mm, a, h => rel_wr (bs := r) (a := a + 1) (rel_w1 h)
theorem mem_pt {m : IM} {i b : Int} (p : Int × Int) (h : p ∈ ptI m i b) : p = (i, b) ∨ p ∈ m := by
  induction m with
  | nil => exact .inl (List.mem_singleton.mp h)
  | cons q r ih =>
    unfold ptI at h
    by_cases e : q.1 = i
    · rw [if_pos e] at h
      rcases List.mem_cons.mp h with h | h
      · exact .inl h
      · exact .inr (List.mem_cons_of_mem _ h)
    · rw [if_neg e] at h
      rcases List.mem_cons.mp h with h | h
      · exact .inr (List.mem_cons.mpr (.inl h))
      · rcases ih h with h | h
        · exact .inl h
        · exact .inr (List.mem_cons_of_mem _ h)
theorem nz_w1 {m : IM} {i b : Int} (h : NZ m) : NZ (w1 m i b) := by
  intro p hp
  unfold w1 at hp
  by_cases hb : b = 0
  · rw [if_pos hb] at hp
    exact h p (List.mem_filter.mp hp).1
  · rw [if_neg hb] at hp
    rcases mem_pt p hp with rfl | hp
    · exact hb
    · exact h p hp
theorem nz_wr : ∀ {bs : List Int} {m : IM} {a : Int}, NZ m → NZ (wrI m a bs)
  | [], _, _, h => h
  | b :: r, m, a, h => nz_wr (bs := r) (a := a + 1) (nz_w1 h)
theorem gtI_some_iff {m : IM} (h : Nd m) {i b : Int} : gtI m i = some b ↔ (i, b) ∈ m := ⟨gtI_mem, gtI_of_mem h⟩
theorem nd_nodup {m : IM} (h : Nd m) : m.Nodup := by
  refine List.Pairwise.of_map (·.1) (fun a b e z => e (by rw [z])) (show (m.map (·.1)).Pairwise (· ≠ ·) from h)
theorem len_eq {a b : IM} (ha : Nd a) (hb : Nd b) (h : ∀ i, gtI a i = gtI b i) : a.length = b.length := by
  refine List.Perm.length_eq ((List.perm_ext_iff_of_nodup (nd_nodup ha) (nd_nodup hb)).mpr fun p => ?_)
  rw [show p = (p.1, p.2) from rfl, ← gtI_some_iff ha, ← gtI_some_iff hb, h]
theorem rel_eq {m mm due : IM} (hz : NZ m) (hR : Rel m mm) (hd : ∀ i, gtI due i = if (gtI mm i).getD 0 = 0 then none else gtI mm i) (i : Int) : gtI m i = gtI due i := by
  rw [hd, ← hR i]
  cases e : gtI m i with
  | none =>
    show none = if (0 : Int) = 0 then none else _
    rw [if_pos rfl]
  | some b =>
    have hb : b ≠ 0 := hz _ (gtI_mem e)
    show some b = if b = 0 then none else _
    rw [if_neg hb]
    have := hR i
    rw [e] at this
    cases e2 : gtI mm i with
    | none => rw [e2] at this; exact absurd this hb
    | some c => rw [e2] at this; exact congrArg some this
/-- all that the law's loops look at -/
structure Stm (cs : Cs) (H : Hp) (pt pm ps pd : Addr) (ts : List Int) (pg : Nat → Int) (ms : Nat → Int) (M D Q : Nat → Addr) (m mm : Nat → IM) (B : Nat) : Prop where
  tp : H pt = some (.lst (ts.map V.int))
  km : H pm = some (.lst [.ref (M 0), .ref (M 1)])
  ks : H ps = some (.lst [.int (pg 0 * 65536), .int (pg 1 * 65536)])
  kd : H pd = some (.lst [.ref (Q 0), .ref (Q 1)])
  hM : ∀ j, j < 2 → MemO cs H (M j) (pg j) (ms j) (D j) (m j)
  hQ : ∀ j, j < 2 → H (Q j) = some (.dK (kvI (mm j)))
  nm : ∀ j, j < 2 → Nd (m j) ∧ NZ (m j) ∧ (m j).length ≤ B
  nq : ∀ j, j < 2 → Nd (mm j) ∧ (mm j).length ≤ B
  pgs : ∀ j, j < 2 → 0 ≤ pg j ∧ pg j ≤ 16
  dq : ∀ i j, i < 2 → j < 2 → D i ≠ Q j
  dd : ∀ i j, i < 2 → j < 2 → i ≠ j → D i ≠ D j
  qq : ∀ i j, i < 2 → j < 2 → i ≠ j → Q i ≠ Q j
theorem Stm.same {cs : Cs} {H H' : Hp} {pt pm ps pd : Addr} {ts : List Int} {pg ms : Nat → Int} {M D Q : Nat → Addr} {m mm : Nat → IM} {B : Nat} (e : Same H H') (h : Stm cs H pt pm ps pd ts pg ms M D Q m mm B) :
    Stm cs H' pt pm ps pd ts pg ms M D Q m mm B :=
  ⟨e _ _ h.tp, e _ _ h.km, e _ _ h.ks, e _ _ h.kd, fun j hj => by obtain ⟨⟨x, a⟩, b⟩ := h.hM j hj; exact ⟨⟨x, e _ _ a⟩, e _ _ b⟩, fun j hj => e _ _ (h.hQ j hj), h.nm, h.nq, h.pgs, h.dq, h.dd, h.qq⟩
theorem Stm.le {cs : Cs} {H : Hp} {pt pm ps pd : Addr} {ts : List Int} {pg ms : Nat → Int} {M D Q : Nat → Addr} {m mm : Nat → IM} {B C : Nat} (e : B ≤ C) (h : Stm cs H pt pm ps pd ts pg ms M D Q m mm B) :
    Stm cs H pt pm ps pd ts pg ms M D Q m mm C :=
  ⟨h.tp, h.km, h.ks, h.kd, h.hM, h.hQ, fun j hj => ⟨(h.nm j hj).1, (h.nm j hj).2.1, Nat.le_trans (h.nm j hj).2.2 e⟩, fun j hj => ⟨(h.nq j hj).1, Nat.le_trans (h.nq j hj).2 e⟩, h.pgs, h.dq, h.dd, h.qq⟩
def setF {α : Type} (f : Nat → α) (j : Nat) (x : α) : Nat → α := fun i => if i = j then x else f i
theorem setF_at {α : Type} {f : Nat → α} {j : Nat} {x : α} : setF f j x j = x := if_pos rfl
theorem setF_ne {α : Type} {f : Nat → α} {i j : Nat} {x : α} (h : i ≠ j) : setF f j x i = f i := if_neg h
/-- the memory j was written -/
theorem Stm.write {cs : Cs} {H H' : Hp} {pt pm ps pd : Addr} {ts : List Int} {pg ms : Nat → Int} {M D Q : Nat → Addr} {m mm : Nat → IM} {B j : Nat} {a : Int} {bs : List Int} (hj : j < 2) (h : Stm cs H pt pm ps pd ts pg ms M D Q m mm B)
    (k : MemO cs H' (M j) (pg j) (ms j) (D j) (wrI (m j) a bs)) (e : SameBut [D j] H H') : Stm cs H' pt pm ps pd ts pg ms M D Q (setF m j (wrI (m j) a bs)) mm (B + bs.length) := by
  have hD : ∀ i, i < 2 → H (D i) = some (.dK (kvI (m i))) := fun i hi => (h.hM i hi).2
  have ne : ∀ b o, H b = some o → (∀ kv, o ≠ .dK kv) → H' b = some o := fun b o z n => e b o (fun y => n _ (by
    rw [List.mem_singleton.mp y, hD j hj] at z; exact (Option.some.inj z).symm)) z
  refine ⟨ne _ _ h.tp fun _ z => (nomatch z), ne _ _ h.km fun _ z => (nomatch z), ne _ _ h.ks fun _ z => (nomatch z), ne _ _ h.kd fun _ z => (nomatch z), fun i hi => ?_, fun i hi => ?_, fun i hi => ?_, fun i hi => ?_, h.pgs, h.dq, h.dd, h.qq⟩
  · by_cases c : i = j
    · subst c; rw [setF_at]; exact k
    · rw [setF_ne c]
      obtain ⟨⟨x, a1⟩, b1⟩ := h.hM i hi
      exact ⟨⟨x, ne _ _ a1 fun _ z => nomatch z⟩, e _ _ (fun y => h.dd i j hi hj c (List.mem_singleton.mp y)) b1⟩
  · exact e _ _ (fun y => h.dq j i hj hi (List.mem_singleton.mp y).symm) (h.hQ i hi)
  · by_cases c : i = j
    · subst c; rw [setF_at]
      have := len_wr bs (m i) a
      exact ⟨nd_wr (h.nm i hi).1, nz_wr (h.nm i hi).2.1, by have := (h.nm i hi).2.2; omega⟩
    · rw [setF_ne c]
      exact ⟨(h.nm i hi).1, (h.nm i hi).2.1, by have := (h.nm i hi).2.2; omega⟩
  · exact ⟨(h.nq i hi).1, by have := (h.nq i hi).2; omega⟩
/-- the model j was put into -/
theorem Stm.put {cs : Cs} {H : Hp} {pt pm ps pd : Addr} {ts : List Int} {pg ms : Nat → Int} {M D Q : Nat → Addr} {m mm : Nat → IM} {B j : Nat} {a b : Int} (hj : j < 2) (h : Stm cs H pt pm ps pd ts pg ms M D Q m mm B) :
    Stm cs (upd H (Q j) (.dK (kvI (ptI (mm j) a b)))) pt pm ps pd ts pg ms M D Q m (setF mm j (ptI (mm j) a b)) (B + 1) := by
  have ne : ∀ c o, H c = some o → (∀ kv, o ≠ .dK kv) → (upd H (Q j) (.dK (kvI (ptI (mm j) a b)))) c = some o := fun c o z n => (upd_ne (fun y => n _ (by
    rw [y, h.hQ j hj] at z; exact (Option.some.inj z).symm))).trans z
  refine ⟨ne _ _ h.tp fun _ z => (nomatch z), ne _ _ h.km fun _ z => (nomatch z), ne _ _ h.ks fun _ z => (nomatch z), ne _ _ h.kd fun _ z => (nomatch z), fun i hi => ?_, fun i hi => ?_, fun i hi => ?_, fun i hi => ?_, h.pgs, h.dq, h.dd, h.qq⟩
  · obtain ⟨⟨x, a1⟩, b1⟩ := h.hM i hi
    exact ⟨⟨x, ne _ _ a1 fun _ z => nomatch z⟩, (upd_ne (h.dq i j hi hj)).trans b1⟩
  · by_cases c : i = j
    · subst c; rw [setF_at]; exact upd_same
    · rw [setF_ne c]
      exact (upd_ne (h.qq i j hi hj c)).trans (h.hQ i hi)
  · exact ⟨(h.nm i hi).1, (h.nm i hi).2.1, by have := (h.nm i hi).2.2; omega⟩
  · by_cases c : i = j
    · subst c; rw [setF_at]
      have := len_pt (mm i) a b
      exact ⟨nd_pt (h.nq i hi).1, by have := (h.nq i hi).2; omega⟩
    · rw [setF_ne c]
      exact ⟨(h.nq i hi).1, by have := (h.nq i hi).2; omega⟩
theorem at2 {α : Type} {x y : α} {j : Nat} (f : Nat → α) (h0 : f 0 = x) (h1 : f 1 = y) (h : j < 2) : atI [x, y] (j : Int) = some (f j) := by
  match j, h with
  | 0, _ => rw [h0]; rfl
  | 1, _ => rw [h1]; rfl
theorem setF_set {α : Type} {f : Nat → α} {j : Nat} {x y : α} : setF (setF f j x) j y = setF f j y := by
  funext i
  unfold setF
  by_cases h : i = j
  · rw [if_pos h, if_pos h]
  · rw [if_neg h, if_neg h, if_neg h]
theorem setF_self {α : Type} {f : Nat → α} {j : Nat} : setF f j (f j) = f := by
  funext i
  unfold setF
  by_cases h : i = j
  · rw [if_pos h, h]
  · rw [if_neg h]
theorem neD_intsS {K : PySem.W.Frag} {H : Hp} {a b : Addr} {ns : List Int} {Q : VK} (h1 : SqL K H a (ns.map V.int)) (h2 : SqL K H b (ns.map V.int)) (q : Q (.bl false) H) : rNeD K (.ref a) (.ref b) H Q :=
  neD_same (dp_ints h1) (dp_ints h2) (shaped_ints _) q
/-- the owed dict after some keys -/
def duI (f : Int → Int) : IM → List Int → IM
  | m, [] => m
  | m, k :: r => duI f (if f k = 0 then m else ptI m k (f k)) r
theorem duI_snoc (f : Int → Int) : ∀ (ys : List Int) (m : IM) (k : Int), duI f m (ys ++ [k]) = if f k = 0 then duI f m ys else ptI (duI f m ys) k (f k)
  | [], _, _ => rfl
  | _ :: r, _, k => duI_snoc f r _ k
theorem nd_du (f : Int → Int) : ∀ (ys : List Int) (m : IM), Nd m → Nd (duI f m ys)
  | [], _, h => h
  | k :: r, m, h => nd_du f r _ (by split; exact h; exact nd_pt h)
theorem len_du (f : Int → Int) : ∀ (ys : List Int) (m : IM), (duI f m ys).length ≤ m.length + ys.length
  | [], _ => Nat.le_refl _
  | k :: r, m => by
    have h := len_du f r (if f k = 0 then m else ptI m k (f k))
    have h2 : (if f k = 0 then m else ptI m k (f k)).length ≤ m.length + 1 := by
      split
      · exact Nat.le_succ _
      · exact len_pt _ _ _
    show (duI f (if f k = 0 then m else ptI m k (f k)) r).length ≤ m.length + (r.length + 1)
    omega
theorem gt_du (f : Int → Int) (j : Int) : ∀ (ys : List Int) (m : IM), gtI (duI f m ys) j = if j ∈ ys ∧ f j ≠ 0 then some (f j) else gtI m j
  | [], m => by rw [if_neg (fun h => by cases h.1)]; rfl
  | k :: r, m => by
    show gtI (duI f (if f k = 0 then m else ptI m k (f k)) r) j = _
    rw [gt_du f j r]
    by_cases h0 : f j = 0
    · have hn2 : ¬ (j ∈ r ∧ f j ≠ 0) := fun h => h.2 h0
      have hn3 : ¬ (j ∈ k :: r ∧ f j ≠ 0) := fun h => h.2 h0
      rw [if_neg hn2, if_neg hn3]
      by_cases hk : f k = 0
      · rw [if_pos hk]
      · rw [if_neg hk, gtI_pt, if_neg (fun e => hk (by rw [e]; exact h0))]
    · by_cases hj : j ∈ r
      · rw [if_pos ⟨hj, h0⟩, if_pos ⟨List.mem_cons_of_mem _ hj, h0⟩]
      · have hn1 : ¬ (j ∈ r ∧ f j ≠ 0) := fun h => hj h.1
        rw [if_neg hn1]
        by_cases e : k = j
        · subst e
          rw [if_neg h0, gtI_pt, if_pos rfl, if_pos ⟨List.mem_cons_self .., h0⟩]
        · have hn : ¬ (j ∈ k :: r ∧ f j ≠ 0) := fun h => by
            rcases List.mem_cons.mp h.1 with z | z
            · exact e z.symm
            · exact hj z
          rw [if_neg hn]
          by_cases hk : f k = 0
          · rw [if_pos hk]
          · rw [if_neg hk, gtI_pt, if_neg e]
theorem Stm.off {cs : Cs} {H H0 : Hp} {pt pm ps pd : Addr} {ts : List Int} {pg ms : Nat → Int} {M D Q : Nat → Addr} {m mm : Nat → IM} {B : Nat} {d : Addr} {o : HO} (h0 : Stm cs H0 pt pm ps pd ts pg ms M D Q m mm B) (hd : H0 d = none)
    (h : Stm cs H pt pm ps pd ts pg ms M D Q m mm B) : Stm cs (upd H d o) pt pm ps pd ts pg ms M D Q m mm B := by
  have n : ∀ {x u v}, H0 x = some u → H x = some v → (upd H d o) x = some v := fun e e2 => (upd_ne (ne_of_none e hd)).trans e2
  refine ⟨n h0.tp h.tp, n h0.km h.km, n h0.ks h.ks, n h0.kd h.kd, fun j hj => ?_, fun j hj => n (h0.hQ j hj) (h.hQ j hj), h.nm, h.nq, h.pgs, h.dq, h.dd, h.qq⟩
  obtain ⟨⟨x, a⟩, b⟩ := h.hM j hj
  obtain ⟨⟨x0, a0⟩, b0⟩ := h0.hM j hj
  exact ⟨⟨x, n a0 a⟩, n b0 b⟩
def sp_lawK (K : PySem.W.Frag) : Sp := fun vs H Q _ => ∃ (a : Addr) (ns : List Int), vs = [.ref a] ∧ SqL K H a (ns.map V.int) ∧ ns.length ≤ 63 ∧ ∀ H', Q (.bl true) H'
abbrev sp_law (K : PySem.W.Frag) (_ : Cs) : Sp := sp_lawK K
section
variable {P : Program} {w : World} {K : PySem.W.Frag} {mg : Str → Option Value} {base : Heap} {cs : Cs}
theorem c_Memory___init__ (D : DefI K (Cs.C_Memory cs) "Memory.__init__" s_Memory___init__ ["self", "pages", "most"]) (T : Tp w K mg cs)  : CalI P w K mg base CX0 (Cs.C_Memory cs) 1 (sp_Memory___init__ K cs) := by
  refine D.ok sc_Memory___init__ (fun vs H Q E h => ?_) (fun f cdv A outer s H vs Q E hr h => ?_)
  · obtain ⟨p, dx, n, m, rfl, _⟩ := h; rfl
  · obtain ⟨p, dx, n, m, rfl, hp, q⟩ := h
    refine ⟨_, (pss_cons (ps_fld (pv 0) (pv 1) rfl)
      (pss_cons (ps_fld (pv 0) (pv 2) rfl)
      (pss_one (ps_fld (pv 0) pe_dnewK rfl)))), ?_⟩
    refine ⟨_, rfl, _, rfl, p, _, dx, _, rfl, hp, T.cl_Memory, T.n_Memory_pages, (by show 0 < 1000; decide), ?_⟩
    rw [in_Memory_0 (x0 := .int n) (x1 := .int m) (x2 := .non)]
    refine ⟨_, rfl, _, rfl, p, _, dx, _, rfl, upd_same, T.cl_Memory, T.n_Memory_most, (by show 1 < 1000; decide), ?_⟩
    rw [in_Memory_1 (x0 := .int n) (x1 := .int m) (x2 := .non)]
    intro d hd
    have nd : p ≠ d := fun e => by subst e; rw [upd_same] at hd; cases hd
    refine ⟨_, rfl, p, _, dx, _, rfl, (upd_ne nd).trans upd_same, T.cl_Memory, T.n_Memory_cells, (by show 2 < 1000; decide), ?_⟩
    rw [in_Memory_2 (x0 := .int n) (x1 := .int m) (x2 := .ref d)]
    have mm : p ∈ [p] := List.mem_singleton.mpr rfl
    have hd0 : H d = none := by
      rw [upd_ne (Ne.symm nd), upd_ne (Ne.symm nd)] at hd; exact hd
    refine q d _ ⟨⟨dx, upd_same⟩, (upd_ne (Ne.symm nd)).trans upd_same⟩ hd0 (Ne.symm nd) ?_
    refine SameBut.upd (fun b o nb e => ?_) mm
    have hb : b ≠ p := fun z => nb (List.mem_singleton.mpr z)
    have hbd : b ≠ d := ne_of_none e hd0
    rw [upd_ne hbd, upd_ne hb, upd_ne hb]; exact e
theorem c_Memory_size (D : DefM K (Cs.C_Memory cs) "size" "Memory.size" s_Memory_size ["self"]) (T : Tp w K mg cs)  : CalM P w K mg base CX0 (Cs.C_Memory cs) 1 "size" (sp_Memory_size K cs) := by
  refine D.ok sc_Memory_size T.cl_Memory (fun vs H Q E h => ?_) (fun f cdv A outer s H vs Q E hr h => ?_)
  · obtain ⟨p, d, pg, ms, m, rfl, _⟩ := h; rfl
  · obtain ⟨p, d, pg, ms, m, rfl, ⟨⟨dx, hp⟩, hd⟩, q⟩ := h
    refine ⟨_, (pss_one (ps_ret (pe_op op_mul (pe_fld (pv 0) rfl) (pe_gint (by rfl) T.i_PAGE_BYTES)))), ?_⟩
    refine ⟨_, rfl, p, _, dx, _, _, rfl, hp, T.cl_Memory, T.n_Memory_pages, lk_Memory_pages, ?_⟩
    walk_at "go"
    exact q
theorem c_Memory_read (D : DefM K (Cs.C_Memory cs) "read" "Memory.read" s_Memory_read ["self", "at", "count"]) (T : Tp w K mg cs)  : CalM P w K mg base CX0 (Cs.C_Memory cs) 1 "read" (sp_Memory_read K cs) := by
  refine D.ok sc_Memory_read T.cl_Memory (fun vs H Q E h => ?_) (fun f cdv A outer s H vs Q E hr h => ?_)
  · obtain ⟨p, d, pg, ms, m, a, n, rfl, _⟩ := h; rfl
  · obtain ⟨p, d, pg, ms, m, a, n, rfl, ⟨⟨dx, hp⟩, hd⟩, ⟨ha0, ha1⟩, hn, q⟩ := h
    refine ⟨_, (pss_one (ps_ret (pe_lc (own := [("place", 3)]) (g := gName 3) (tt := tYes) (by rfl) sc_Memory_read.nd (pi_range2 (by rfl) T.m_range (pa_cons (pv 1) (pa_cons (pe_op op_add (pv 1) (pv 2)) pa_nil))) (blkOk_by (own := [("place", 3)]) (N := ["self", "at", "count", "place"]) (sc := defScope s_Memory_read) (by decide +kernel)) (fun _ _ _ _ _ => (pg_name (i := 3) sc_Memory_read.nd rfl (by first | exact Or.inl rfl | exact Or.inr rfl))) (fun _ _ _ _ _ => pts_nil) (fun _ _ _ _ _ => (pe_dget2 (hu1 hr) (pe_fldB (pv 0) rfl) (pv 3) pe_int ⟨by rfl, by rfl, by rfl, by rfl⟩))))), ?_⟩
    walk_at "go"
    refine ⟨⟨by omega, by omega, by omega, by omega⟩, ?_⟩
    rw [show (a + (n : Int) - a).toNat = n by omega]
    intro D hD
    refine lc_fR (f := fun k => .int ((gtI m (a + (k : Nat))).getD 0)) hD (by omega) (fun i G Q2 hi sG q2 => ?_) (fun G sG kG => ?_)
    · refine ⟨_, rfl, p, _, dx, _, _, rfl, sG _ _ hp, T.cl_Memory, T.n_Memory_cells, lk_Memory_cells, ?_⟩
      refine ⟨d, rfl, .inl ⟨_, .inl (sG _ _ hd)⟩, _, rfl, _, DGet.k (k := Sum.inl (a + (i : Nat))) (sG _ _ hd), ?_⟩
      rw [valV_kvI]
      have e : ((gtI m (a + (i : Nat))).map V.int).getD (.int 0) = .int ((gtI m (a + (i : Nat))).getD 0) := by
        cases gtI m (a + (i : Nat)) <;> rfl
      rw [e]
      exact q2 _ (Same.refl _)
    · refine q D G sG hD ?_
      rw [kG, List.map_map]; rfl
theorem c_Memory_write (D : DefM K (Cs.C_Memory cs) "write" "Memory.write" s_Memory_write ["self", "at", "data"]) (T : Tp w K mg cs)  : CalM P w K mg base CX0 (Cs.C_Memory cs) 1 "write" (sp_Memory_write K cs) := by
  refine D.ok sc_Memory_write T.cl_Memory (fun vs H Q E h => ?_) (fun f cdv A outer s H vs Q E hr h => ?_)
  · obtain ⟨p, d, l, pg, ms, m, a, bs, rfl, _⟩ := h; rfl
  · obtain ⟨p, d, l, pg, ms, m, a, bs, rfl, ⟨⟨dx, hp⟩, hd⟩, hl, hN, hml, hbl, ⟨ha0, ha1⟩, q⟩ := h
    refine ⟨_, (pss_one (ps_for PassesOwn.never rfl (pi_enumS (by rfl) T.m_enumerate (pa_cons (pv 2) (pa_cons (pv 1) pa_nil))) (pg_tup (by rfl) (pgs_cons (pg_name (i := 3) sc_Memory_write.nd rfl (by first | exact Or.inl rfl | exact Or.inr rfl)) (pgs_cons (pg_name (i := 4) sc_Memory_write.nd rfl (by first | exact Or.inl rfl | exact Or.inr rfl)) pgs_nil))) (pss_one (ps_if (pt_cmpR op_eq (pv 4) pe_int (by first | rfl | exact nomark _)) (pss_one (ps_expr (pe_dpop2 (pe_fld (pv 0) rfl) (pv 3) pe_non ⟨by rfl, by rfl, by rfl, by rfl⟩))) (pss_one (ps_dput (hu1 hr) (pe_fld (pv 0) rfl) (pv 3) (pv 4) rfl)))))), ?_⟩
    walk_at "go"
    refine ⟨l, _, a, rfl, SqL.of hl, ⟨by omega, by omega⟩, ?_⟩
    have ndl : d ≠ l := fun e => by subst e; rw [hd] at hl; cases hl
    have ndp : p ≠ d := fun e => by subst e; rw [hp] at hd; cases hd
    refine for_enS (xs := bs.map V.int) (fun i σ G => (∀ b o, b ≠ d → H b = some o → G b = some o) ∧ G d = some (.dK (kvI (wrI m a (bs.take i)))) ∧ ∃ o3 o4, σ = [some (.ref p), some (.int a), some (.ref l), o3, o4]) ⟨fun b o _ e => e, hd, _, _, rfl⟩ (fun i σ G _ h => SqL.of (h.1 _ _ (Ne.symm ndl) hl)) ?_ ?_
    · rintro i x t _ G hx ⟨sG, kG, o3, o4, rfl⟩ ht
      obtain ⟨b, hb, rfl⟩ := ints_at hx
      have hi : i < bs.length := (List.getElem?_eq_some_iff.mp hb).1
      have est : wrI m a (bs.take (i + 1)) = w1 (wrI m a (bs.take i)) (a + (i : Nat)) b := by
        rw [List.take_add_one, hb]
        show wrI m a (bs.take i ++ [b]) = _
        rw [wrI_snoc, List.length_take, Nat.min_eq_left (by omega)]
      have hnd : Nd (wrI m a (bs.take i)) := nd_wr hN
      have hln := len_wr (bs.take i) m a
      have hlt : (bs.take i).length ≤ 1000 := by rw [List.length_take]; omega
      rw [est]
      generalize wrI m a (bs.take i) = mi at kG hnd hln
      generalize y1 : upd G t _ = G1
      obtain ⟨s1, k1⟩ := newO ht y1
      clear y1
      have kG1 := s1 _ _ kG
      have hp1 := s1 _ _ (sG _ _ ndp hp)
      refine ⟨t, _, rfl, SqT.of k1, rfl, ?_⟩
      walk_at "go"
      by_cases hb0 : b = 0
      · refine ifEq hb0 ?_
        have ew : w1 mi (a + (i : Nat)) b = drI mi (a + (i : Nat)) := if_pos hb0
        rw [ew]
        refine ⟨_, rfl, p, _, dx, _, _, rfl, hp1, T.cl_Memory, T.n_Memory_cells, lk_Memory_cells, ?_⟩
        refine ⟨d, rfl, .inl ⟨_, .inl kG1⟩, _, rfl, kvI mi, Sum.inl (a + (i : Nat)), kG1, rfl, fun v hv => ?_, fun hv => ?_⟩
        · rw [dropK_kvI]
          exact ⟨fun c o n e => (upd_ne n).trans (s1 _ _ (sG _ _ n e)), upd_same, _, _, rfl⟩
        · have hn0 : gtI mi (a + (i : Nat)) = none := by
            rw [valV_kvI] at hv
            cases e : gtI mi (a + (i : Nat)) with
            | none => rfl
            | some c => rw [e] at hv; cases hv
          rw [dr_none hn0]
          exact ⟨fun c o n e => s1 _ _ (sG _ _ n e), kG1, _, _, rfl⟩
      · refine ifEqN hb0 ?_
        have ew : w1 mi (a + (i : Nat)) b = ptI mi (a + (i : Nat)) b := if_neg hb0
        rw [ew]
        refine ⟨_, rfl, _, rfl, p, _, dx, _, _, rfl, hp1, T.cl_Memory, T.n_Memory_cells, lk_Memory_cells, ?_⟩
        refine ⟨_, rfl, d, _, rfl, DPut.k (k := Sum.inl (a + (i : Nat))) kG1 (by unfold kvI; rw [List.length_map]; exact small64' (by omega)), ?_⟩
        rw [putK_kvI hnd]
        exact ⟨fun c o n e => (upd_ne n).trans (s1 _ _ (sG _ _ n e)), upd_same, _, _, rfl⟩
    · rintro _ G ⟨sG, kG, o3, o4, rfl⟩
      rw [List.length_map, List.take_length] at kG
      refine q G ⟨⟨dx, sG _ _ ndp hp⟩, kG⟩ fun b o nb e => sG b o (fun z => nb (List.mem_singleton.mpr z)) e
theorem c__law_is_int (D : Def K mg "_law_is_int" s__law_is_int ["actual"]) (T : Tp w K mg cs)  : Cal P w K mg base CX0 1 "_law_is_int" (sp__law_is_int K cs) := by
  refine D.ok sc__law_is_int (fun vs H Q E h => ?_) (fun f cdv A outer s H vs Q E hr h => ?_)
  · obtain ⟨n, rfl, _⟩ := h; rfl
  · obtain ⟨n, rfl, q⟩ := h
    refine ⟨_, (pss_one (ps_ret (pe_and (pe_callB call_isi (by rfl) T.m_isinstance (by decide +kernel) (pa_cons (pv 0) (pa_cons (pe_bltn (v := .ty "int") (u := .type "int") (by rfl) T.m_int (by decide +kernel) rfl) pa_nil))) (pe_one (pe_not (pe_callB call_isi (by rfl) T.m_isinstance (by decide +kernel) (pa_cons (pv 0) (pa_cons (pe_bltn (v := .ty "bool") (u := .type "bool") (by rfl) T.m_bool (by decide +kernel) rfl) pa_nil)))))))), ?_⟩
    walk_at "go"
    exact q
theorem c__law_same_ints (D : Def K mg "_law_same_ints" s__law_same_ints ["actual", "due"]) (T : Tp w K mg cs) (c__law_is_int : Cal P w K mg base CX0 1 "_law_is_int" (sp__law_is_int K cs)) : Cal P w K mg base CX0 2 "_law_same_ints" (sp__law_same_ints K cs) := by
  refine D.ok sc__law_same_ints (fun vs H Q E h => ?_) (fun f cdv A outer s H vs Q E hr h => ?_)
  · obtain ⟨a, b, xs, rfl, _⟩ := h; rfl
  · obtain ⟨a, b, xs, rfl, ka, kb, hl, q⟩ := h
    refine ⟨_, (pss_cons (ps_if (PW.pt (pw_or (pt_not (pt_val (pe_callB call_isi (by rfl) T.m_isinstance (by decide +kernel) (pa_cons (pv 0) (pa_cons (pe_bltn (v := .ty "list") (u := .type "list") (by rfl) T.m_list (by decide +kernel) rfl) pa_nil))))) (pw_or1 (pt_cmpR op_ne (pe_callB call_len_seq (by rfl) T.m_len PySem.boot_len (pa_cons (pv 0) pa_nil)) (pe_callB call_len_seq (by rfl) T.m_len PySem.boot_len (pa_cons (pv 1) pa_nil)) (by first | rfl | exact nomark _))))) (pss_one (ps_ret pe_bl)) pss_nil)
      (pss_cons (ps_for PassesOwn.never rfl (pi_range1 (by rfl) T.m_range (pa_cons (pe_callB call_len_seq (by rfl) T.m_len PySem.boot_len (pa_cons (pv 1) pa_nil)) pa_nil)) (pg_name (i := 2) sc__law_same_ints.nd rfl (by first | exact Or.inl rfl | exact Or.inr rfl)) (pss_one (ps_if (PW.pt (pw_or (pt_not (pt_val (pe_c c__law_is_int hr (by decide) (by rfl) (pa_cons (pe_ix ix_list (pv 0) (pv 2) (fun _ _ => rfl)) pa_nil)))) (pw_or1 (pt_cmpR op_ne (pe_ix ix_list (pv 0) (pv 2) (fun _ _ => rfl)) (pe_ix ix_list (pv 1) (pv 2) (fun _ _ => rfl)) (by first | rfl | exact nomark _))))) (pss_one (ps_ret pe_bl)) pss_nil)))
      (pss_one (ps_ret pe_bl)))), ?_⟩
    have hy : (xs.map V.int).length ≤ 10000 := by rw [List.length_map]; omega
    have hk : ∀ i : Nat, i < (xs.map V.int).length → atI (xs.map V.int) (i : Int) = some (.int (xs.getD i 0)) := by
      intro i hi
      rw [List.length_map] at hi
      exact atI_nat (by rw [List.getElem?_map, List.getElem?_eq_getElem hi, List.getD_eq_getElem?_getD, List.getElem?_eq_getElem hi]; rfl)
    generalize xs.map V.int = ys at ka kb hy hk
    walk_at "go"
    refine ⟨a, _, rfl, .inl (SqL.of ka), ?_⟩
    walk_at "go"
    refine ⟨b, _, rfl, .inl (SqL.of kb), ?_⟩
    walk_at "go"
    refine ⟨b, ys, rfl, .inl (SqL.of kb), ?_⟩
    walk_at "go"
    refine for_rangeD (lo := 0) (n := ys.length) (fun i σ H2 => H = H2 ∧ ∃ o, σ = [some (.ref a), some (.ref b), o]) ⟨rfl, _, rfl⟩ ?_ ?_
    · rintro i _ _ hi ⟨rfl, o, rfl⟩
      have ex := hk i hi
      rw [Int.zero_add]
      walk_at "go"
      refine ⟨_, _, _, _, rfl, rfl, SqL.of ka, ex, ?_⟩
      walk_at "go"
      refine ⟨_, _, _, _, rfl, rfl, SqL.of ka, ex, ?_⟩
      walk_at "go"
      refine ⟨_, _, _, _, rfl, rfl, SqL.of kb, ex, ?_⟩
      walk_at "go"
      exact ⟨_, rfl⟩
    · rintro _ _ ⟨rfl, o, rfl⟩
      walk_at "go"
      exact q
theorem c__law_place (D : Def K mg "_law_place" s__law_place ["tape", "at", "most", "last"]) (T : Tp w K mg cs) (c__law_draw : Cal P w K mg base CX0 1 "_law_draw" (sp__law_draw K cs)) : Cal P w K mg base CX0 2 "_law_place" (sp__law_place K cs) := by
  refine D.ok sc__law_place (fun vs H Q E h => ?_) (fun f cdv A outer s H vs Q E hr h => ?_)
  · obtain ⟨a, ts, p, most, last, rfl, _⟩ := h; rfl
  · obtain ⟨a, ts, p, most, last, rfl, hS, ⟨hp0, hp⟩, hm, q⟩ := h
    refine ⟨_, (pss_cons (ps_set (i := 4) sc__law_place.nd rfl (by first | exact Or.inl rfl | exact Or.inr rfl) (pe_c c__law_draw hr (by decide) (by rfl) (pa_cons (pv 0) (pa_cons (pv 1) (pa_cons pe_int pa_nil)))))
      (pss_cons (ps_if (pt_cmpR op_eq (pv 4) pe_int (by first | rfl | exact nomark _)) (pss_one (ps_ret pe_int)) pss_nil)
      (pss_cons (ps_if (pt_cmpR op_eq (pv 4) pe_int (by first | rfl | exact nomark _)) (pss_one (ps_ret (pv 2))) pss_nil)
      (pss_cons (ps_if (pt_cmpR op_eq (pv 4) pe_int (by first | rfl | exact nomark _)) (pss_one (ps_ret (pe_callB (call_min2 rfl) (by rfl) T.m_min (by decide +kernel) (pa_cons (pv 2) (pa_cons (pe_op op_sub pe_int pe_int) pa_nil))))) pss_nil)
      (pss_cons (ps_if (pt_cmpR op_lt (pv 4) pe_int (by first | rfl | exact nomark _)) (pss_one (ps_ret (pe_callB (call_max2 rfl) (by rfl) T.m_max (by decide +kernel) (pa_cons pe_int (pa_cons (pe_callB (call_min2 rfl) (by rfl) T.m_min (by decide +kernel) (pa_cons (pv 2) (pa_cons (pe_op op_sub (pe_op op_add (pv 3) (pe_c c__law_draw hr (by decide) (by rfl) (pa_cons (pv 0) (pa_cons (pe_op op_add (pv 1) pe_int) (pa_cons pe_int pa_nil))))) pe_int) pa_nil))) pa_nil))))) pss_nil)
      (pss_one (ps_ret (pe_op op_mod (pe_callTy call_int1 (by rfl) T.m_int (by decide +kernel) (pa_cons (pe_op op_add (pe_op op_mul (pe_c c__law_draw hr (by decide) (by rfl) (pa_cons (pv 0) (pa_cons (pe_op op_add (pv 1) pe_int) (pa_cons pe_int pa_nil)))) pe_int) (pe_c c__law_draw hr (by decide) (by rfl) (pa_cons (pv 0) (pa_cons (pe_op op_add (pv 1) pe_int) (pa_cons pe_int pa_nil))))) pa_nil)) (pe_op op_add (pv 2) pe_int))))))))), ?_⟩
    refine ⟨_, rfl, _, rfl, a, ts, p, 8, rfl, hS, ⟨by omega, by omega⟩, by decide, fun pick k0 k1 => ?_⟩
    walk_at "go"
    by_cases h0 : pick = 0
    · refine ifEq h0 ?_
      walk_at "go"
      exact q 0 (Int.le_refl _) hm
    refine ifEqN h0 ?_
    walk_at "go"
    by_cases h1 : pick = 1
    · refine ifEq h1 ?_
      walk_at "go"
      exact q most hm (Int.le_refl _)
    refine ifEqN h1 ?_
    walk_at "go"
    by_cases h2 : pick = 2
    · refine ifEq h2 ?_
      walk_at "go"
      exact q _ (by split <;> omega) (by split <;> omega)
    refine ifEqN h2 ?_
    walk_at "go"
    refine ite2 (fun c => ?_) (fun c => ?_)
    · walk_at "go"
      refine ⟨a, ts, p + 1, 41, rfl, hS, ⟨by omega, by omega⟩, by decide, fun v v0 v1 => ?_⟩
      walk_at "go"
      exact q _ (by split <;> (try split) <;> omega) (by split <;> (try split) <;> omega)
    · walk_at "go"
      refine ⟨a, ts, p + 1, 1000, rfl, hS, ⟨by omega, by omega⟩, by decide, fun v v0 v1 => ?_⟩
      walk_at "go"
      refine ⟨a, ts, p + 2, 1000, rfl, hS, ⟨by omega, by omega⟩, by decide, fun u u0 u1 => ?_⟩
      walk_at "go"
      have := Int.emod_nonneg (v * 1000 + u) (show most + 1 ≠ 0 by omega)
      have := Int.emod_lt_of_pos (v * 1000 + u) (show 0 < most + 1 by omega)
      exact q _ (by omega) (by omega)
theorem c__law_byte (D : Def K mg "_law_byte" s__law_byte ["tape", "at"]) (T : Tp w K mg cs) (c__law_draw : Cal P w K mg base CX0 1 "_law_draw" (sp__law_draw K cs)) : Cal P w K mg base CX0 2 "_law_byte" (sp__law_byte K cs) := by
  refine D.ok sc__law_byte (fun vs H Q E h => ?_) (fun f cdv A outer s H vs Q E hr h => ?_)
  · obtain ⟨a, ts, p, rfl, _⟩ := h; rfl
  · obtain ⟨a, ts, p, rfl, hS, ⟨hp0, hp⟩, q⟩ := h
    refine ⟨_, (pss_cons (ps_set (i := 2) sc__law_byte.nd rfl (by first | exact Or.inl rfl | exact Or.inr rfl) (pe_c c__law_draw hr (by decide) (by rfl) (pa_cons (pv 0) (pa_cons (pv 1) (pa_cons pe_int pa_nil)))))
      (pss_cons (ps_if (pt_cmpR op_lt (pv 2) pe_int (by first | rfl | exact nomark _)) (pss_one (ps_ret (pv 2))) pss_nil)
      (pss_cons (ps_if (pt_cmpR op_lt (pv 2) pe_int (by first | rfl | exact nomark _)) (pss_one (ps_ret pe_int)) pss_nil)
      (pss_one (ps_ret (pe_op op_mod (pe_callTy call_int1 (by rfl) T.m_int (by decide +kernel) (pa_cons (pv 2) pa_nil)) pe_int)))))), ?_⟩
    refine ⟨_, rfl, _, rfl, a, ts, p, 1000, rfl, hS, ⟨by omega, by omega⟩, by decide, fun v v0 v1 => ?_⟩
    walk_at "go"
    refine ite2 (fun c => ?_) (fun c => ?_)
    · have c' : v < 256 := of_decide_eq_true c
      walk_at "go"
      exact q v v0 (by omega)
    walk_at "go"
    refine ite2 (fun c => ?_) (fun c => ?_)
    · walk_at "go"
      exact q 0 (by decide) (by decide)
    walk_at "go"
    exact q _ (by omega) (by omega)
theorem c__law_window (D : Def K mg "_law_window" s__law_window ["memory", "model", "at", "count", "size"]) (T : Tp w K mg cs) (c_Memory_read : CalM P w K mg base CX0 (Cs.C_Memory cs) 1 "read" (sp_Memory_read K cs)) (c__law_same_ints : Cal P w K mg base CX0 2 "_law_same_ints" (sp__law_same_ints K cs)) : Cal P w K mg base CX0 3 "_law_window" (sp__law_window K cs) := by
  refine D.ok sc__law_window (fun vs H Q E h => ?_) (fun f cdv A outer s H vs Q E hr h => ?_)
  · obtain ⟨p, d, md, pg, ms, m, mm, a, n, z, rfl, _⟩ := h; rfl
  · obtain ⟨p, d, md, pg, ms, m, mm, a, n, z, rfl, ⟨⟨dx, hp⟩, hd⟩, hmd, hR, ⟨ha0, ha1, hz⟩, ⟨hn0, hn1⟩, q⟩ := h
    refine ⟨_, (pss_cons (ps_set (i := 5) sc__law_window.nd rfl (by first | exact Or.inl rfl | exact Or.inr rfl) (pe_callB (call_max2 rfl) (by rfl) T.m_max (by decide +kernel) (pa_cons pe_int (pa_cons (pe_op op_sub (pv 2) pe_int) pa_nil))))
      (pss_cons (ps_set (i := 6) sc__law_window.nd rfl (by first | exact Or.inl rfl | exact Or.inr rfl) (pe_callB (call_min2 rfl) (by rfl) T.m_min (by decide +kernel) (pa_cons (pv 4) (pa_cons (pe_op op_add (pe_op op_add (pv 2) (pv 3)) pe_int) pa_nil))))
      (pss_cons (ps_set (i := 7) sc__law_window.nd rfl (by first | exact Or.inl rfl | exact Or.inr rfl) (pe_mE c_Memory_read hr (by decide) pass0 (pv 0) (pa_cons (pv 5) (pa_cons (pe_op op_sub (pv 6) (pv 5)) pa_nil))))
      (pss_cons (ps_setLc (i := 8) (own := [("place", 9)]) (g := gName 9) (tt := tYes) (by rfl) sc__law_window.nd rfl rfl (sw_true rfl rfl rfl (by decide +kernel)) (pi_range2 (by rfl) T.m_range (pa_cons (pv 5) (pa_cons (pv 6) pa_nil))) (blkOk_by (own := [("place", 9)]) (N := ["memory", "model", "at", "count", "size", "first", "last", "actual", "due", "place"]) (sc := defScope s__law_window) (by decide +kernel)) (fun _ _ _ _ _ => (pg_name (i := 9) sc__law_window.nd rfl (by first | exact Or.inl rfl | exact Or.inr rfl))) (fun _ _ _ _ _ => pts_nil) (fun _ _ _ _ _ => (pe_dget2 (hu1 hr) (pv 1) (pv 9) pe_int ⟨by rfl, by rfl, by rfl, by rfl⟩)))
      (pss_cons (ps_if (pt_not (pt_val (pe_c c__law_same_ints hr (by decide) (by rfl) (pa_cons (pv 7) (pa_cons (pv 8) pa_nil))))) (pss_one (ps_ret pe_bl)) pss_nil)
      (pss_cons (ps_expr (pe_bm PySem.F.plainAttrs_list PySem.F.slot_list_append PySem.F.type_list_append mt_append (pv 7) (pa_cons pe_int pa_nil)))
      (pss_cons (ps_asg pe_int (pg_sub (pv 7) pe_int set_list))
      (pss_one (ps_ret (pe_c c__law_same_ints hr (by decide) (by rfl) (pa_cons (pe_mE c_Memory_read hr (by decide) pass0 (pv 0) (pa_cons (pv 5) (pa_cons (pe_op op_sub (pv 6) (pv 5)) pa_nil))) (pa_cons (pv 8) pa_nil)))))))))))), ?_⟩
    walk_at "go"
    have hf : 0 ≤ (if a - 5 > 0 then a - 5 else 0) ∧ (if a - 5 > 0 then a - 5 else 0) ≤ a ∧ a - 5 ≤ (if a - 5 > 0 then a - 5 else 0) := by split <;> omega
    have hL : a ≤ (if a + n + 5 < z then a + n + 5 else z) ∧ (if a + n + 5 < z then a + n + 5 else z) ≤ a + n + 5 ∧ (if a + n + 5 < z then a + n + 5 else z) ≤ z := by split <;> omega
    generalize (if a - 5 > 0 then a - 5 else 0) = F at hf ⊢
    generalize (if a + n + 5 < z then a + n + 5 else z) = L at hL ⊢
    obtain ⟨hf0, hf1, hf2⟩ := hf
    obtain ⟨hl0, hl1, hl2⟩ := hL
    obtain ⟨N, rfl⟩ : ∃ N : Nat, L = F + N := ⟨(L - F).toNat, by omega⟩
    refine ⟨p, dx, _, rfl, hp, no_Memory_read, ?_⟩
    have eN : F + (N : Int) - F = N := by omega
    walk_at "go"
    refine ⟨p, d, pg, ms, m, F, N, by show [V.ref p, V.int F, V.int (F + (N : Int) - F)] = _; rw [eN], ⟨⟨dx, hp⟩, hd⟩, ⟨by omega, by omega⟩, by omega, ?_⟩
    obtain ⟨xs, hx⟩ : ∃ xs, xs = (List.range N).map fun k => (gtI m (F + (k : Nat))).getD 0 := ⟨_, rfl⟩
    have hxl : xs.length = N := by rw [hx, List.length_map, List.length_range]
    rw [← hx]
    intro p1 H1 s1 n1 k1
    walk_at "go"
    refine ⟨⟨by omega, by omega, by omega, by omega⟩, ?_⟩
    rw [show (F + (N : Int) - F).toNat = N by omega]
    intro D2 hD2
    refine lc_fR (f := fun k => .int ((gtI mm (F + (k : Nat))).getD 0)) hD2 (by omega) (fun i G Q2 hi sG q2 => ?_) (fun G sG kG => ?_)
    · have hmG := sG _ _ (s1 _ _ hmd)
      walk_at "go"
      refine ⟨.inl ⟨_, .inl hmG⟩, _, rfl, _, DGet.k (k := Sum.inl (F + (i : Nat))) hmG, ?_⟩
      rw [valV_kvI]
      have e : ((gtI mm (F + (i : Nat))).map V.int).getD (.int 0) = .int ((gtI mm (F + (i : Nat))).getD 0) := by
        cases gtI mm (F + (i : Nat)) <;> rfl
      rw [e]
      exact q2 _ (Same.refl _)
    have kD : G D2 = some (.lst (xs.map V.int)) := by
      rw [kG, hx, List.map_map]
      congr 2
      exact List.map_congr_left fun k _ => by show V.int _ = V.int _; rw [← hR (F + (k : Nat))]
    clear kG
    walk_at "go"
    refine ⟨p1, D2, xs, rfl, sG _ _ k1, kD, by omega, ?_⟩
    walk_at "go"
    refine ⟨.inl ⟨rfl, _, SqL.of (sG _ _ k1)⟩, ?_⟩
    walk_at "go"
    refine ⟨_, _, _, rfl, rfl, sG _ _ k1, (by rw [List.length_map]; exact small64' (by omega)), ?_⟩
    have nD : D2 ≠ p1 := fun e => by rw [← e, hD2] at k1; cases k1
    have sH : Same H (upd G p1 (.lst (xs.map V.int ++ [.int 7]))) := fun b o e => (upd_ne (ne_of_none e n1)).trans (sG _ _ (s1 _ _ e))
    have kA : (upd G p1 (.lst (xs.map V.int ++ [.int 7]))) p1 = _ := upd_same
    have kB : (upd G p1 (.lst (xs.map V.int ++ [.int 7]))) D2 = some (.lst (xs.map V.int)) := (upd_ne nD).trans kD
    generalize upd G p1 (.lst (xs.map V.int ++ [.int 7])) = G2 at sH kA kB ⊢
    walk_at "go"
    have hix : ixN (xs.map V.int ++ [V.int 7]).length 0 = some 0 := by
      rw [List.length_append]
      unfold ixN
      rw [if_pos (Int.le_refl 0), if_pos (by show (0 : Int) < (((xs.map V.int).length + 1 : Nat) : Int); omega)]; rfl
    refine ⟨p1, _, 0, 0, rfl, rfl, kA, hix, ?_⟩
    generalize eG : upd G2 p1 _ = G3
    have sG3 : Same H G3 := fun b o e => by rw [← eG]; exact (upd_ne (ne_of_none e n1)).trans (sH _ _ e)
    have kB3 : G3 D2 = some (.lst (xs.map V.int)) := by rw [← eG]; exact (upd_ne nD).trans kB
    clear eG kA kB sH hix
    walk_at "go"
    refine ⟨p, dx, _, rfl, sG3 _ _ hp, no_Memory_read, ?_⟩
    walk_at "go"
    refine ⟨p, d, pg, ms, m, F, N, by show [V.ref p, V.int F, V.int (F + (N : Int) - F)] = _; rw [eN], ⟨⟨dx, sG3 _ _ hp⟩, sG3 _ _ hd⟩, ⟨by omega, by omega⟩, by omega, ?_⟩
    rw [← hx]
    intro p3 G4 s4 n4 k4
    walk_at "go"
    refine ⟨p3, D2, xs, rfl, k4, s4 _ _ kB3, by omega, ?_⟩
    exact q _ (sG3.trans s4)
theorem c_law {f : Addr} {fd : FuncData} (D : L2.Fun K "law" "law" s_law f fd) (T : Tp w K mg cs) (c__law_tape : Cal P w K mg base CX0 1 "_law_tape" (sp__law_tape K cs)) (c__law_draw : Cal P w K mg base CX0 1 "_law_draw" (sp__law_draw K cs)) (c_Memory___init__ : CalI P w K mg base CX0 (Cs.C_Memory cs) 1 (sp_Memory___init__ K cs)) (c__law_place : Cal P w K mg base CX0 2 "_law_place" (sp__law_place K cs)) (c_Memory_write : CalM P w K mg base CX0 (Cs.C_Memory cs) 1 "write" (sp_Memory_write K cs)) (c__law_byte : Cal P w K mg base CX0 2 "_law_byte" (sp__law_byte K cs)) (c__law_window : Cal P w K mg base CX0 3 "_law_window" (sp__law_window K cs)) (c__law_is_int : Cal P w K mg base CX0 1 "_law_is_int" (sp__law_is_int K cs)) (c_Memory_size : CalM P w K mg base CX0 (Cs.C_Memory cs) 1 "size" (sp_Memory_size K cs)) : FnOk P w K mg base CX0 4 f fd ["script"] (sp_law K cs) := by
  refine D.ok sc_law (fun vs H Q E h => ?_) (fun cdv A outer s H vs Q E hr h => ?_)
  · obtain ⟨a, ns, rfl, _⟩ := h; rfl
  · obtain ⟨a, ns0, rfl, hS, hlen, q⟩ := h
    refine ⟨_, (pss_cons (ps_set (i := 1) sc_law.nd rfl (by first | exact Or.inl rfl | exact Or.inr rfl) (pe_c c__law_tape hr (by decide) (by rfl) (pa_cons (pv 0) pa_nil)))
      (pss_cons (ps_set (i := 2) sc_law.nd rfl (by first | exact Or.inl rfl | exact Or.inr rfl) (pe_c c__law_draw hr (by decide) (by rfl) (pa_cons (pv 1) (pa_cons pe_int (pa_cons pe_int pa_nil)))))
      (pss_cons (ps_set (i := 3) sc_law.nd rfl (by first | exact Or.inl rfl | exact Or.inr rfl) (pe_lst (pa_cons (pe_nw c_Memory___init__ hr (by decide) (by rfl) T.g_Memory (pa_cons (pv 2) (pa_cons pe_int pa_nil))) (pa_cons (pe_nw c_Memory___init__ hr (by decide) (by rfl) T.g_Memory (pa_cons pe_int (pa_cons pe_int pa_nil))) pa_nil))))
      (pss_cons (ps_set (i := 4) sc_law.nd rfl (by first | exact Or.inl rfl | exact Or.inr rfl) (pe_lst (pa_cons (pe_op op_mul (pv 2) pe_int) (pa_cons pe_int pa_nil))))
      (pss_cons (ps_set (i := 5) sc_law.nd rfl (by first | exact Or.inl rfl | exact Or.inr rfl) (pe_lst (pa_cons pe_dnewK (pa_cons pe_dnewK pa_nil))))
      (pss_cons (ps_set (i := 6) sc_law.nd rfl (by first | exact Or.inl rfl | exact Or.inr rfl) pe_int)
      (C8.pss_cut (ps_for PassesOwn.never rfl (pi_range1 (by rfl) T.m_range (pa_cons (pe_c c__law_draw hr (by decide) (by rfl) (pa_cons (pv 1) (pa_cons pe_int (pa_cons pe_int pa_nil)))) pa_nil)) (pg_name (i := 7) sc_law.nd rfl (by first | exact Or.inl rfl | exact Or.inr rfl)) (pss_cons (ps_set (i := 9) sc_law.nd rfl (by first | exact Or.inl rfl | exact Or.inr rfl) (pe_op op_add pe_int (pe_op op_mul pe_int (pv 7))))
      (pss_cons (ps_set (i := 10) sc_law.nd rfl (by first | exact Or.inl rfl | exact Or.inr rfl) (pe_callTy call_int1 (by rfl) T.m_int (by decide +kernel) (pa_cons (pe_cmpR op_eq (pe_c c__law_draw hr (by decide) (by rfl) (pa_cons (pv 1) (pa_cons (pv 9) (pa_cons pe_int pa_nil)))) pe_int (by first | rfl | exact nomark _)) pa_nil)))
      (pss_cons (ps_set (i := 11) sc_law.nd rfl (by first | exact Or.inl rfl | exact Or.inr rfl) (pe_ix ix_list (pv 4) (pv 10) (fun _ _ => rfl)))
      (pss_cons (ps_set (i := 12) sc_law.nd rfl (by first | exact Or.inl rfl | exact Or.inr rfl) (pe_callB (call_min2 rfl) (by rfl) T.m_min (by decide +kernel) (pa_cons (pv 11) (pa_cons (pe_c c__law_draw hr (by decide) (by rfl) (pa_cons (pv 1) (pa_cons (pe_op op_add (pv 9) pe_int) (pa_cons pe_int pa_nil)))) pa_nil))))
      (pss_cons (ps_set (i := 6) sc_law.nd rfl (by first | exact Or.inl rfl | exact Or.inr rfl) (pe_c c__law_place hr (by decide) (by rfl) (pa_cons (pv 1) (pa_cons (pe_op op_add (pv 9) pe_int) (pa_cons (pe_op op_sub (pv 11) (pv 12)) (pa_cons (pv 6) pa_nil))))))
      (pss_cons (ps_setLc (i := 13) (own := [("j", 8)]) (g := gName 8) (tt := tYes) (by rfl) sc_law.nd rfl rfl (sw_true rfl rfl rfl (by decide +kernel)) (pi_range1 (by rfl) T.m_range (pa_cons (pv 12) pa_nil)) (blkOk_by (own := [("j", 8)]) (N := ["script", "tape", "pages", "memories", "sizes", "models", "last", "k", "j", "base", "which", "size", "count", "data", "passed", "model", "due", "place", "at"]) (sc := defScope s_law) (by decide +kernel)) (fun _ _ _ _ _ => (pg_name (i := 8) sc_law.nd rfl (by first | exact Or.inl rfl | exact Or.inr rfl))) (fun _ _ _ _ _ => pts_nil) (fun _ _ _ _ _ => (pe_c c__law_byte hr (by decide) (by rfl) (pa_cons (pv 1) (pa_cons (pe_op op_add (pe_op op_add (pv 9) pe_int) (pv 8)) pa_nil)))))
      (pss_cons (ps_set (i := 14) sc_law.nd rfl (by first | exact Or.inl rfl | exact Or.inr rfl) (pe_callTy call_list_of (by rfl) T.m_list (by decide +kernel) (pa_cons (pv 13) pa_nil)))
      (pss_cons (ps_expr (pe_mE c_Memory_write hr (by decide) pass0 (pe_ix ix_list (pv 3) (pv 10) (fun _ _ => rfl)) (pa_cons (pv 6) (pa_cons (pv 14) pa_nil))))
      (pss_cons (ps_if (pt_cmpR (op_neD (hu64 hr)) (pv 14) (pv 13) (by first | rfl | exact nomark _)) (pss_one (ps_ret pe_bl)) pss_nil)
      (pss_cons (ps_set (i := 15) sc_law.nd rfl (by first | exact Or.inl rfl | exact Or.inr rfl) (pe_ix ix_list (pv 5) (pv 10) (fun _ _ => rfl)))
      (C8.pss_cut (ps_for PassesOwn.never rfl (pi_range1 (by rfl) T.m_range (pa_cons (pv 12) pa_nil)) (pg_name (i := 8) sc_law.nd rfl (by first | exact Or.inl rfl | exact Or.inr rfl)) (pss_one (ps_dput (hu1 hr) (pv 15) (pe_op op_add (pv 6) (pv 8)) (pe_ix ix_list (pv 13) (pv 8) (fun _ _ => rfl)) rfl)))
      (pss_one (ps_for PassesOwn.never rfl (pi_range1 (by rfl) T.m_range (pa_cons pe_int pa_nil)) (pg_name (i := 8) sc_law.nd rfl (by first | exact Or.inl rfl | exact Or.inr rfl)) (pss_cons (ps_set (i := 18) sc_law.nd rfl (by first | exact Or.inl rfl | exact Or.inr rfl) (pe_callB (call_min2 rfl) (by rfl) T.m_min (by decide +kernel) (pa_cons (pv 6) (pa_cons (pe_ix ix_list (pv 4) (pv 8) (fun _ _ => rfl)) pa_nil))))
      (pss_one (ps_if (pt_not (pt_val (pe_c c__law_window hr (by decide) (by rfl) (pa_cons (pe_ix ix_list (pv 3) (pv 8) (fun _ _ => rfl)) (pa_cons (pe_ix ix_list (pv 5) (pv 8) (fun _ _ => rfl)) (pa_cons (pv 18) (pa_cons (pv 12) (pa_cons (pe_ix ix_list (pv 4) (pv 8) (fun _ _ => rfl)) pa_nil)))))))) (pss_one (ps_ret pe_bl)) pss_nil)))))))))))))))))
      (C8.pss_cut (ps_for PassesOwn.never rfl (pi_range1 (by rfl) T.m_range (pa_cons pe_int pa_nil)) (pg_name (i := 8) sc_law.nd rfl (by first | exact Or.inl rfl | exact Or.inr rfl)) (pss_cons (ps_set (i := 15) sc_law.nd rfl (by first | exact Or.inl rfl | exact Or.inr rfl) (pe_ix ix_list (pv 5) (pv 8) (fun _ _ => rfl)))
      (pss_cons (ps_set (i := 16) sc_law.nd rfl (by first | exact Or.inl rfl | exact Or.inr rfl) pe_dnewK)
      (pss_cons (ps_for PassesOwn.never rfl (pi_list (pe_callB (cr_sortedDA rfl) (by rfl) T.m_sorted (by decide +kernel) (pa_cons (pv 15) pa_nil))) (pg_name (i := 17) sc_law.nd rfl (by first | exact Or.inl rfl | exact Or.inr rfl)) (pss_one (ps_if (pt_cmpR op_ne (pe_dget (hu1 hr) (pv 15) (pv 17) (fun _ _ => rfl)) pe_int (by first | rfl | exact nomark _)) (pss_one (ps_dput (hu1 hr) (pv 16) (pv 17) (pe_dget (hu1 hr) (pv 15) (pv 17) (fun _ _ => rfl)) rfl)) pss_nil)))
      (pss_one (ps_if (PW.pt (pw_or (pt_not (pt_val (pe_c c__law_is_int hr (by decide) (by rfl) (pa_cons (pe_mE0 c_Memory_size hr (by decide) pass0 (pe_ix ix_list (pv 3) (pv 8) (fun _ _ => rfl))) pa_nil)))) (pw_or (pt_cmpR op_ne (pe_mE0 c_Memory_size hr (by decide) pass0 (pe_ix ix_list (pv 3) (pv 8) (fun _ _ => rfl))) (pe_ix ix_list (pv 4) (pv 8) (fun _ _ => rfl)) (by first | rfl | exact nomark _)) (pw_or1 (pt_cmpR (op_ne_dictA (hu0 hr)) (pe_fld (pe_ix ix_list (pv 3) (pv 8) (fun _ _ => rfl)) rfl) (pv 16) (by first | rfl | exact nomark _)))))) (pss_one (ps_ret pe_bl)) pss_nil))))))
      (pss_one (ps_ret pe_bl)))))))))), ?_⟩
    refine ⟨_, rfl, a, ns0, rfl, hS, hlen, fun ts hN hT p H1 s1 _ k1 => ?_⟩
    have hS1 : SqL K H1 p (ts.map V.int) := SqL.of k1
    walk_at "go"
    refine ⟨p, ts, 0, 17, rfl, hS1, ⟨by decide, by decide⟩, by decide, fun pg v0 v1 => ?_⟩
    walk_at "go"
    intro ma dxa nma ndxa nxda
    refine ⟨ma, dxa, pg, 16, rfl, upd_same, fun da H2 kM2 nda neda b2 => ⟨rfl, ?_⟩⟩
    have s2 := made_same nma ndxa b2
    have kp2 := s2 _ _ k1
    walk_at "go"
    intro mb dxb nmb ndxb nxdb
    refine ⟨mb, dxb, 1, 2, rfl, upd_same, fun db H3 kM3 ndb nedb b3 => ⟨rfl, ?_⟩⟩
    have s3 := made_same nmb ndxb b3
    have kp3 := s3 _ _ kp2
    have kM2' : MemO cs H3 ma pg 16 da [] := by obtain ⟨⟨x, y⟩, z⟩ := kM2; exact ⟨⟨x, s3 _ _ y⟩, s3 _ _ z⟩
    have ndab : da ≠ db := fun e => by
      have nb : da ≠ mb := ne_of_none kM2.2 nmb
      have nx : da ≠ dxb := ne_of_none kM2.2 ndxb
      rw [← e, upd_ne nb, upd_ne nx, kM2.2] at ndb; cases ndb
    clear kM2 nda ndb
    walk_at "go"
    intro pm hpm
    generalize e4 : upd H3 pm _ = H4
    obtain ⟨s4, k4⟩ := newO hpm e4
    clear e4
    walk_at "go"
    intro ps hps
    generalize e5 : upd H4 ps _ = H5
    obtain ⟨s5, k5⟩ := newO hps e5
    clear e5
    walk_at "go"
    intro q0 hq0
    generalize e6 : upd H5 q0 _ = H6
    obtain ⟨s6, k6⟩ := newO hq0 e6
    clear e6
    walk_at "go"
    intro q1 hq1
    generalize e7 : upd H6 q1 _ = H7
    obtain ⟨s7, k7⟩ := newO hq1 e7
    clear e7
    walk_at "go"
    intro pd hpd
    generalize e8 : upd H7 pd _ = H8
    obtain ⟨s8, k8⟩ := newO hpd e8
    clear e8
    have s38 : Same H3 H8 := s4.trans (s5.trans (s6.trans (s7.trans s8)))
    have hZ : Stm cs H8 p pm ps pd ts (fun j => if j = 0 then pg else 1) (fun j => if j = 0 then 16 else 2) (fun j => if j = 0 then ma else mb) (fun j => if j = 0 then da else db) (fun j => if j = 0 then q0 else q1) (fun _ => []) (fun _ => []) 0 := by
      have hda : ∀ j, H3 (if j = 0 then da else db) = some (.dK []) := fun j => by split; exact kM2'.2; exact kM3.2
      have ndq : ∀ b, H3 b = some (.dK []) → b ≠ q0 ∧ b ≠ q1 := fun b e => ⟨ne_of_none ((s4.trans s5) _ _ e) hq0, ne_of_none ((s4.trans (s5.trans s6)) _ _ e) hq1⟩
      have nqq : q0 ≠ q1 := ne_of_none k6 hq1
      refine ⟨s38 _ _ kp3, (s5.trans (s6.trans (s7.trans s8))) _ _ k4, (s6.trans (s7.trans s8)) _ _ k5, k8, fun j _ => ?_, fun j _ => ?_, fun _ _ => ⟨List.nodup_nil, (fun _ z => nomatch z), Nat.le_refl _⟩, fun _ _ => ⟨List.nodup_nil, Nat.le_refl _⟩, fun j _ => ?_, fun i j _ _ => ?_, fun i j hi hj hij => ?_, fun i j hi hj hij => ?_⟩
      · split
        · obtain ⟨⟨x, y⟩, z⟩ := kM2'; exact ⟨⟨x, s38 _ _ y⟩, s38 _ _ z⟩
        · obtain ⟨⟨x, y⟩, z⟩ := kM3; exact ⟨⟨x, s38 _ _ y⟩, s38 _ _ z⟩
      · split
        · exact (s7.trans s8) _ _ k6
        · exact s8 _ _ k7
      · split <;> omega
      · have := ndq _ (hda i)
        by_cases c : j = 0
        · rw [if_pos c]; exact this.1
        · rw [if_neg c]; exact this.2
      · by_cases h0 : i = 0
        · rw [if_pos h0, if_neg (by omega)]; exact ndab
        · rw [if_neg h0, if_pos (by omega)]; exact Ne.symm ndab
      · by_cases h0 : i = 0
        · rw [if_pos h0, if_neg (by omega)]; exact nqq
        · rw [if_neg h0, if_pos (by omega)]; exact Ne.symm nqq
    generalize (fun j => if j = 0 then pg else 1) = pgs at hZ
    generalize (fun j => if j = 0 then (16 : Int) else 2) = mss at hZ
    generalize (fun j => if j = 0 then ma else mb) = M at hZ
    generalize (fun j => if j = 0 then da else db) = DD at hZ
    generalize (fun j => if j = 0 then q0 else q1) = QQ at hZ
    clear k4 k5 k6 k7 k8 s4 s5 s6 s7 s8 s38 hpm hps hq0 hq1 hpd kM2' kM3 kp3 kp2 ndab s3 s2 b2 b3 hS1 k1 s1
    walk_at "go"
    refine ⟨fun σ G => ∃ (m mm : Nat → IM) (o2 o6 o7 o8 o9 o10 o11 o12 o13 o14 o15 o16 o17 o18 : Option V), Stm cs G p pm ps pd ts pgs mss M DD QQ m mm 600 ∧ (∀ j, j < 2 → Rel (m j) (mm j)) ∧ σ = [some (.ref a), some (.ref p), o2, some (.ref pm), some (.ref ps), some (.ref pd), o6, o7, o8, o9, o10, o11, o12, o13, o14, o15, o16, o17, o18], ?_, ?_⟩
    · walk_at "go"
      refine ⟨p, ts, 1, 13, rfl, SqL.of hZ.tp, ⟨by decide, by decide⟩, by decide, fun u u0 u1 => ?_⟩
      obtain ⟨N, rfl⟩ := Int.eq_ofNat_of_zero_le u0
      walk_at "go"
      refine for_rangeD (lo := 0) (n := N) (fun i σ G => ∃ (m mm : Nat → IM) (l : Int) (o2 o7 o8 o9 o10 o11 o12 o13 o14 o15 o16 o17 o18 : Option V), Stm cs G p pm ps pd ts pgs mss M DD QQ m mm (40 * i) ∧ (∀ j, j < 2 → Rel (m j) (mm j)) ∧ σ = [some (.ref a), some (.ref p), o2, some (.ref pm), some (.ref ps), some (.ref pd), some (.int l), o7, o8, o9, o10, o11, o12, o13, o14, o15, o16, o17, o18]) ⟨_, _, 0, _, _, _, _, _, _, _, _, _, _, _, _, _, hZ, fun _ _ _ => rfl, rfl⟩ ?_ ?_
      · rintro i _ G hi ⟨m, mm, l, o2, o7, o8, o9, o10, o11, o12, o13, o14, o15, o16, o17, o18, hY, hR, rfl⟩
        walk_at "go"
        refine ⟨p, ts, _, 4, rfl, SqL.of hY.tp, ⟨by omega, by omega⟩, by decide, fun w w0 w1 => ?_⟩
        walk_at "go"
        refine .inr ⟨_, rfl, ?_⟩
        walk_at "go"
        obtain ⟨j, hj, ej⟩ : ∃ j : Nat, j < 2 ∧ (if decide (V.int w = V.int 0) = true then (1 : Int) else 0) = (j : Int) := by
          by_cases c : V.int w = V.int 0
          · exact ⟨1, by decide, by rw [if_pos (decide_eq_true c)]; rfl⟩
          · exact ⟨0, by decide, by rw [if_neg (by rw [decide_eq_true_iff]; exact c)]; rfl⟩
        rw [ej]
        have hpg := hY.pgs j hj
        refine ⟨ps, _, j, _, rfl, rfl, SqL.of hY.ks, at2 (fun j => .int (pgs j * 65536)) rfl rfl hj, ?_⟩
        walk_at "go"
        refine ⟨p, ts, _, 21, rfl, SqL.of hY.tp, ⟨by omega, by omega⟩, by decide, fun c c0 c1 => ?_⟩
        walk_at "go"
        obtain ⟨n, hn⟩ : ∃ n : Nat, (if c < pgs j * 65536 then c else pgs j * 65536) = (n : Int) := ⟨(if c < pgs j * 65536 then c else pgs j * 65536).toNat, by split <;> omega⟩
        have hn20 : n ≤ 20 ∧ (n : Int) ≤ pgs j * 65536 := by rw [← hn]; constructor <;> (split at hn <;> omega)
        rw [hn]
        walk_at "go"
        refine ⟨p, ts, _, _, l, rfl, SqL.of hY.tp, ⟨by omega, by omega⟩, by omega, fun v v0 v1 => ?_⟩
        walk_at "go"
        intro D1 hD1
        refine lc_anyR (n := n) (j := 8) (fun v => ∃ b : Int, v = .int b ∧ True) hD1 (by omega) (fun i2 G2 Q2 hi2 s2 q2 => ?_) (fun xs G2 hl hx s2 k2 => ?_)
        · walk_at "go"
          refine ⟨p, ts, _, rfl, SqL.of (s2 _ _ hY.tp), ⟨by omega, by omega⟩, fun b _ _ => ?_⟩
          exact q2 _ _ ⟨b, rfl, trivial⟩ (Same.refl _)
        obtain ⟨bs, rfl, -⟩ := ints_of (ψ := fun _ => True) hx
        rw [List.length_map] at hl
        have hY2 := hY.same s2
        clear hx hS
        walk_at "go"
        refine ⟨D1, _, rfl, .inl (SqL.of k2), ?_⟩
        intro P1 hP1
        generalize e3 : upd G2 P1 _ = G3
        obtain ⟨s3, k3⟩ := newO hP1 e3
        clear e3
        have k2' := s3 _ _ k2
        have hY3 := hY2.same s3
        clear hY2
        walk_at "go"
        refine ⟨pm, _, j, _, rfl, rfl, SqL.of hY3.km, at2 (fun j => .ref (M j)) rfl rfl hj, ?_⟩
        obtain ⟨⟨dx, kMj⟩, kDj⟩ := hY3.hM j hj
        refine ⟨M j, dx, _, rfl, kMj, no_Memory_write, ?_⟩
        walk_at "go"
        refine ⟨M j, DD j, P1, pgs j, mss j, m j, v, bs, rfl, ⟨⟨dx, kMj⟩, kDj⟩, k3, (hY3.nm j hj).1, by have := (hY3.nm j hj).2.2; omega, by omega, ⟨by omega, by omega⟩, fun G4 kW b4 => ?_⟩
        have nP : P1 ≠ DD j := fun e => by rw [e, kDj] at k3; cases k3
        have nD1 : D1 ≠ DD j := fun e => by rw [e, kDj] at k2'; cases k2'
        have k24 := b4 _ _ (fun y => nD1 (List.mem_singleton.mp y)) k2'
        have k34 := b4 _ _ (fun y => nP (List.mem_singleton.mp y)) k3
        have hY4 := hY3.write hj kW b4
        clear hY3 kDj kMj kW b4 k2 k3 k2' nP nD1 s3 hP1 hD1 s2
        walk_at "go"
        refine neD_intsS (SqL.of k34) (SqL.of k24) ?_
        walk_at "go"
        refine ⟨pd, _, j, _, rfl, rfl, SqL.of hY4.kd, at2 (fun j => .ref (QQ j)) rfl rfl hj, ?_⟩
        walk_at "go"
        refine ⟨fun σ G' => Stm cs G' p pm ps pd ts pgs mss M DD QQ (setF m j (wrI (m j) v bs)) (setF mm j (ptsI (mm j) v bs)) (40 * i + 40) ∧ ∃ o7 o8 o9 o10 o11 o13 o14 o15, σ = [some (.ref a), some (.ref p), o2, some (.ref pm), some (.ref ps), some (.ref pd), some (.int v), o7, o8, o9, o10, o11, some (.int (n : Int)), o13, o14, o15, o16, o17, o18], ?_, ?_⟩
        · walk_at "go"
          refine for_rangeD (lo := 0) (n := n) (fun t σ G' => Stm cs G' p pm ps pd ts pgs mss M DD QQ (setF m j (wrI (m j) v bs)) (setF mm j (ptsI (mm j) v (bs.take t))) (40 * i + bs.length + t) ∧ G' D1 = some (.lst (bs.map V.int)) ∧ ∃ o7 o8 o9 o10 o11 o14, σ = [some (.ref a), some (.ref p), o2, some (.ref pm), some (.ref ps), some (.ref pd), some (.int v), o7, o8, o9, o10, o11, some (.int (n : Int)), some (.ref D1), o14, some (.ref (QQ j)), o16, o17, o18]) ⟨by
            show Stm cs G4 p pm ps pd ts pgs mss M DD QQ _ (setF mm j (mm j)) _
            rw [setF_self]; exact hY4, k24, _, _, _, _, _, _, rfl⟩ ?_ ?_
          · rintro t _ G5 ht ⟨hY5, kD5, o7, o8, o9, o10, o11, o14, rfl⟩
            obtain ⟨b, hb⟩ : ∃ b, bs[t]? = some b := ⟨_, List.getElem?_eq_getElem (by omega)⟩
            rw [Int.zero_add]
            walk_at "go"
            refine ⟨D1, _, t, _, rfl, rfl, SqL.of kD5, atI_nat (by rw [List.getElem?_map, hb]; rfl), ?_⟩
            have kQ := hY5.hQ j hj
            rw [setF_at] at kQ
            have nq := hY5.nq j hj
            rw [setF_at] at nq
            have tk : (bs.take t).length = t := by rw [List.length_take]; omega
            have est : ptsI (mm j) v (bs.take (t + 1)) = ptI (ptsI (mm j) v (bs.take t)) (v + (t : Int)) b := by
              rw [List.take_add_one, hb]
              show ptsI (mm j) v (bs.take t ++ [b]) = _
              rw [ptsI_snoc, tk]
            have hY6 := hY5.put (a := v + (t : Int)) (b := b) hj
            rw [setF_at, setF_set, ← est] at hY6
            have nDQ : D1 ≠ QQ j := fun e => by rw [e, kQ] at kD5; cases kD5
            walk_at "go"
            refine ⟨_, _, rfl, DPut.k (k := Sum.inl (v + (t : Int))) kQ (by unfold kvI; rw [List.length_map]; exact small64' (by omega)), ?_⟩
            rw [putK_kvI nq.1, ← est]
            exact ⟨hY6, (upd_ne nDQ).trans kD5, _, _, _, _, _, _, rfl⟩
          · rintro _ G5 ⟨hY5, kD5, o7, o8, o9, o10, o11, o14, rfl⟩
            rw [List.take_of_length_le (by omega)] at hY5
            exact ⟨hY5.le (by omega), _, _, _, _, _, _, _, _, rfl⟩
        rintro _ G5 ⟨hY5, o7, o8, o9, o10, o11, o13, o14, o15, rfl⟩
        have hR5 : ∀ z, z < 2 → Rel (setF m j (wrI (m j) v bs) z) (setF mm j (ptsI (mm j) v bs) z) := fun z hz => by
          by_cases c : z = j
          · subst c; rw [setF_at, setF_at]; exact rel_wr (hR z hz)
          · rw [setF_ne c, setF_ne c]; exact hR z hz
        clear hY4 k24 k34 hY hR ej hn c0 c1 w0 w1
        generalize setF m j (wrI (m j) v bs) = m5 at hY5 hR5
        generalize setF mm j (ptsI (mm j) v bs) = mm5 at hY5 hR5
        walk_at "go"
        refine for_rangeD (lo := 0) (n := 2) (fun t σ G' => Stm cs G' p pm ps pd ts pgs mss M DD QQ m5 mm5 (40 * i + 40) ∧ ∃ o7 o8 o9 o10 o11 o13 o14 o15 o18, σ = [some (.ref a), some (.ref p), o2, some (.ref pm), some (.ref ps), some (.ref pd), some (.int v), o7, o8, o9, o10, o11, some (.int (n : Int)), o13, o14, o15, o16, o17, o18]) ⟨hY5, _, _, _, _, _, _, _, _, _, rfl⟩ ?_ ?_
        · rintro t _ G6 ht ⟨hY6, o7, o8, o9, o10, o11, o13, o14, o15, o18, rfl⟩
          rw [Int.zero_add]
          have hpt := hY6.pgs t ht
          walk_at "go"
          refine ⟨ps, _, t, _, rfl, rfl, SqL.of hY6.ks, at2 (fun j => .int (pgs j * 65536)) rfl rfl ht, ?_⟩
          walk_at "go"
          obtain ⟨at_, hat, a0, a1, a2⟩ : ∃ at_, (if pgs t * 65536 < v then pgs t * 65536 else v) = at_ ∧ 0 ≤ at_ ∧ at_ ≤ pgs t * 65536 ∧ at_ ≤ v := ⟨_, rfl, by split <;> omega, by split <;> omega, by split <;> omega⟩
          rw [hat]
          refine ⟨pm, _, t, _, rfl, rfl, SqL.of hY6.km, at2 (fun j => .ref (M j)) rfl rfl ht, ?_⟩
          walk_at "go"
          refine ⟨pd, _, t, _, rfl, rfl, SqL.of hY6.kd, at2 (fun j => .ref (QQ j)) rfl rfl ht, ?_⟩
          walk_at "go"
          refine ⟨ps, _, t, _, rfl, rfl, SqL.of hY6.ks, at2 (fun j => .int (pgs j * 65536)) rfl rfl ht, ?_⟩
          walk_at "go"
          refine ⟨M t, DD t, QQ t, pgs t, mss t, m5 t, mm5 t, at_, n, pgs t * 65536, rfl, hY6.hM t ht, hY6.hQ t ht, hR5 t ht, ⟨a0, a1, by omega⟩, ⟨by omega, by omega⟩, fun G7 s7 => ?_⟩
          walk_at "go"
          exact ⟨hY6.same s7, _, _, _, _, _, _, _, _, _, rfl⟩
        · rintro _ G6 ⟨hY6, o7, o8, o9, o10, o11, o13, o14, o15, o18, rfl⟩
          exact ⟨m5, mm5, v, _, _, _, _, _, _, _, _, _, _, _, _, _, hY6.le (by omega), hR5, rfl⟩
      · rintro _ G ⟨m, mm, l, o2, o7, o8, o9, o10, o11, o12, o13, o14, o15, o16, o17, o18, hY, hR, rfl⟩
        exact ⟨m, mm, _, _, _, _, _, _, _, _, _, _, _, _, _, _, hY.le (by omega), hR, rfl⟩
    rintro _ G ⟨m, mm, o2, o6, o7, o8, o9, o10, o11, o12, o13, o14, o15, o16, o17, o18, hY, hR, rfl⟩
    clear hZ
    walk_at "go"
    refine ⟨fun _ _ => True, ?_, fun _ G2 _ => ?_⟩
    · walk_at "go"
      refine for_rangeD (lo := 0) (n := 2) (fun t σ G' => Stm cs G' p pm ps pd ts pgs mss M DD QQ m mm 600 ∧ ∃ o8 o15 o16 o17, σ = [some (.ref a), some (.ref p), o2, some (.ref pm), some (.ref ps), some (.ref pd), o6, o7, o8, o9, o10, o11, o12, o13, o14, o15, o16, o17, o18]) ⟨hY, _, _, _, _, rfl⟩ ?_ ?_
      · rintro t _ G3 ht ⟨hY3, o8, o15, o16, o17, rfl⟩
        rw [Int.zero_add]
        walk_at "go"
        refine ⟨pd, _, t, _, rfl, rfl, SqL.of hY3.kd, at2 (fun j => .ref (QQ j)) rfl rfl ht, ?_⟩
        walk_at "go"
        intro du hdu
        generalize e4 : upd G3 du _ = G4
        obtain ⟨s4, k4⟩ := newO hdu e4
        clear e4
        have hY4 := hY3.same s4
        walk_at "go"
        have nmm := hY4.nq t ht
        have kq := hY4.hQ t ht
        refine ⟨QQ t, kvI (mm t), (mm t).map (·.1), rfl, Rd.of kq, (by unfold kvI; rw [List.map_map, List.map_map]; rfl), (by rw [List.length_map]; omega), fun ys P hperm _ hP => ?_⟩
        generalize e5 : upd G4 P _ = G5
        obtain ⟨s5, k5⟩ := newO hP e5
        clear e5
        have hY5 := hY4.same s5
        have kdu5 := s5 _ _ k4
        have nPd : P ≠ du := fun e => by rw [e, k4] at hP; cases hP
        refine ⟨P, rfl, ⟨_, SqL.of k5⟩, ?_⟩
        have hmem : ∀ k ∈ ys, ∃ c, gtI (mm t) k = some c := fun k hk => by
          obtain ⟨⟨k', c⟩, hq, rfl⟩ := List.mem_map.mp (hperm.mem_iff.mp hk)
          exact ⟨c, gtI_of_mem nmm.1 hq⟩
        have hall : ∀ k c, gtI (mm t) k = some c → k ∈ ys := fun k c e => hperm.mem_iff.mpr (List.mem_map.mpr ⟨(k, c), gtI_mem e, rfl⟩)
        have hlen : ys.length ≤ 600 := by rw [hperm.length_eq, List.length_map]; exact nmm.2
        refine for_listD (xs := ys.map V.int) (fun i σ G' => Stm cs G' p pm ps pd ts pgs mss M DD QQ m mm 600 ∧ G' P = some (.lst (ys.map V.int)) ∧ G' du = some (.dK (kvI (duI (fun k => (gtI (mm t) k).getD 0) [] (ys.take i)))) ∧ ∃ o17, σ = [some (.ref a), some (.ref p), o2, some (.ref pm), some (.ref ps), some (.ref pd), o6, o7, some (.int (t : Int)), o9, o10, o11, o12, o13, o14, some (.ref (QQ t)), some (.ref du), o17, o18]) ⟨hY5, k5, kdu5, _, rfl⟩ (fun i σ G' _ h => SqL.of h.2.1) ?_ ?_
        · rintro i x _ G6 hx ⟨hY6, k6, kd6, o17, rfl⟩
          obtain ⟨b, hb, rfl⟩ := ints_at hx
          have hi : i < ys.length := (List.getElem?_eq_some_iff.mp hb).1
          obtain ⟨c, hc⟩ := hmem b (List.mem_of_getElem? hb)
          have kq6 := hY6.hQ t ht
          have est : duI (fun k => (gtI (mm t) k).getD 0) [] (ys.take (i + 1)) = if c = 0 then duI (fun k => (gtI (mm t) k).getD 0) [] (ys.take i) else ptI (duI (fun k => (gtI (mm t) k).getD 0) [] (ys.take i)) b c := by
            rw [List.take_add_one, hb]
            show duI _ [] (ys.take i ++ [b]) = _
            rw [duI_snoc, hc]; rfl
          have hnd : Nd (duI (fun k => (gtI (mm t) k).getD 0) [] (ys.take i)) := nd_du _ _ _ List.nodup_nil
          have hln := len_du (fun k => (gtI (mm t) k).getD 0) (ys.take i) []
          have htk : (ys.take i).length ≤ 600 := by rw [List.length_take]; omega
          rw [est]
          generalize duI (fun k => (gtI (mm t) k).getD 0) [] (ys.take i) = dm at kd6 hnd hln
          have g : DGet G6 (QQ t) (.int b) (some (.int c)) := by
            have := DGet.k (k := Sum.inl b) kq6
            rw [valV_kvI, hc] at this; exact this
          walk_at "go"
          refine ⟨_, _, rfl, g, ?_⟩
          walk_at "go"
          by_cases h0 : c = 0
          · refine ifNe h0 ?_
            rw [if_pos h0]
            exact ⟨hY6, k6, kd6, _, rfl⟩
          · refine ifNeN h0 ?_
            rw [if_neg h0]
            walk_at "go"
            refine ⟨_, _, rfl, g, ?_⟩
            walk_at "go"
            refine ⟨_, _, rfl, DPut.k (k := Sum.inl b) kd6 (by unfold kvI; rw [List.length_map]; exact small64' (by rw [List.length_nil] at hln; omega)), ?_⟩
            rw [putK_kvI hnd]
            exact ⟨Stm.off hY3 hdu hY6, (upd_ne nPd).trans k6, upd_same, _, rfl⟩
        · rintro _ G6 ⟨hY6, k6, kd6, o17, rfl⟩
          rw [List.length_map, List.take_length] at kd6
          walk_at "go"
          obtain ⟨⟨dx, kMt⟩, kDt⟩ := hY6.hM t ht
          have gM : atI [V.ref (M 0), V.ref (M 1)] (t : Int) = some (.ref (M t)) := at2 (fun j => V.ref (M j)) rfl rfl ht
          refine ⟨pm, _, t, _, rfl, rfl, SqL.of hY6.km, gM, ?_⟩
          refine ⟨M t, dx, _, rfl, kMt, no_Memory_size, ?_⟩
          walk_at "go"
          refine ⟨M t, DD t, pgs t, mss t, m t, rfl, ⟨⟨dx, kMt⟩, kDt⟩, ?_⟩
          walk_at "go"
          refine ⟨pm, _, t, _, rfl, rfl, SqL.of hY6.km, gM, ?_⟩
          refine ⟨M t, dx, _, rfl, kMt, no_Memory_size, ?_⟩
          walk_at "go"
          refine ⟨M t, DD t, pgs t, mss t, m t, rfl, ⟨⟨dx, kMt⟩, kDt⟩, ?_⟩
          walk_at "go"
          refine ⟨ps, _, t, _, rfl, rfl, SqL.of hY6.ks, at2 (fun j => .int (pgs j * 65536)) rfl rfl ht, ?_⟩
          walk_at "go"
          refine ⟨pm, _, t, _, rfl, rfl, SqL.of hY6.km, gM, ?_⟩
          refine ⟨M t, _, dx, _, _, rfl, kMt, T.cl_Memory, T.n_Memory_cells, lk_Memory_cells, ?_⟩
          walk_at "go"
          have hgt : ∀ z, gtI (m t) z = gtI (duI (fun k => (gtI (mm t) k).getD 0) [] ys) z := rel_eq (hY6.nm t ht).2.1 (hR t ht) fun z => by
            have hd := gt_du (fun k => (gtI (mm t) k).getD 0) z ys []
            rw [hd]
            by_cases h0 : (gtI (mm t) z).getD 0 = 0
            · rw [if_pos h0, if_neg (fun h => h.2 h0)]; rfl
            · rw [if_neg h0]
              cases e : gtI (mm t) z with
              | none => rw [e] at h0; exact absurd rfl h0
              | some c =>
                rw [e] at h0
                rw [if_pos ⟨hall z c e, h0⟩]; rfl
          have nd1 := (hY6.nm t ht).1
          have nd2 : Nd (duI (fun k => (gtI (mm t) k).getD 0) [] ys) := nd_du _ _ _ List.nodup_nil
          refine ⟨DD t, du, _, _, rfl, rfl, kDt, kd6, (by unfold kvI; rw [List.length_map, List.length_map]; exact len_eq nd1 nd2 hgt), fun y hy => ?_, ?_⟩
          · obtain ⟨⟨x, c⟩, hm, rfl⟩ := List.mem_map.mp hy
            refine ⟨?_, rfl⟩
            show valV (kvI _) (Sum.inl x : Key) = some (V.int c)
            rw [valV_kvI, ← hgt, gtI_of_mem nd1 hm]; rfl
          walk_at "go"
          exact ⟨_, _, _, _, rfl⟩
      · rintro _ G3 _
        trivial
    walk_at "go"
    exact q _
end
theorem all_mk {l : PySem.W.OpenLaw} {w : World} {K : PySem.W.Frag} {h : Heap} {mg : Str → Option Value} {fa f0 f1 f2 f3 f4 f5 f6 f7 f8 f9 f10 f11 : Addr} (X : K.In h) (G : h.Ns mainGlobals mg) (hfa : mg "law" = some (.ref fa))
    {od0 an0 od1 an1 od2 an2 od3 an3 od4 an4 od5 an5 od6 an6 od7 an7 od8 an8 od9 an9 od10 an10 od11 an11 : Option Addr} {sl0 sl1 sl2 sl3 sl4 sl5 sl6 sl7 sl8 sl9 sl10 sl11 : Array (Option Value)} {oc0 kV0 dc0 pm0 cd0 ct0 oc1 kV1 dc1 pm1 cd1 ct1 oc2 kV2 dc2 pm2 cd2 ct2 oc3 kV3 dc3 pm3 cd3 ct3 oc4 kV4 dc4 pm4 cd4 ct4 oc5 kV5 dc5 pm5 cd5 ct5 oc6 kV6 dc6 pm6 cd6 ct6 oc7 kV7 dc7 pm7 cd7 ct7 oc8 kV8 dc8 pm8 cd8 ct8 oc9 kV9 dc9 pm9 cd9 ct9 oc10 kV10 dc10 pm10 cd10 ct10 oc11 kV11 dc11 pm11 cd11 ct11 : Value}
    (a0 : PySem.W.nsIn K mainGlobals "_law_tape" = some (some (.ref f0))) (l0 : K.lookup f0 = some ⟨oc0, od0, .func (PySem.W.fnOf "_law_tape" "_law_tape" (defArgs s__law_tape) (defBody s__law_tape) (defScope s__law_tape) .none kV0 dc0 pm0 an0 cd0 ct0), sl0⟩) (c0 : PySem.W.codeIn K cd0 "_law_tape" = true) (k0 : PySem.W.keepIn K (.ref f0) = true)
    (a1 : PySem.W.nsIn K mainGlobals "_law_draw" = some (some (.ref f1))) (l1 : K.lookup f1 = some ⟨oc1, od1, .func (PySem.W.fnOf "_law_draw" "_law_draw" (defArgs s__law_draw) (defBody s__law_draw) (defScope s__law_draw) .none kV1 dc1 pm1 an1 cd1 ct1), sl1⟩) (c1 : PySem.W.codeIn K cd1 "_law_draw" = true) (k1 : PySem.W.keepIn K (.ref f1) = true)
    (a2 : PySem.W.nsIn K mainGlobals "_law_is_int" = some (some (.ref f2))) (l2 : K.lookup f2 = some ⟨oc2, od2, .func (PySem.W.fnOf "_law_is_int" "_law_is_int" (defArgs s__law_is_int) (defBody s__law_is_int) (defScope s__law_is_int) .none kV2 dc2 pm2 an2 cd2 ct2), sl2⟩) (c2 : PySem.W.codeIn K cd2 "_law_is_int" = true) (k2 : PySem.W.keepIn K (.ref f2) = true)
    (a3 : PySem.W.nsIn K mainGlobals "_law_same_ints" = some (some (.ref f3))) (l3 : K.lookup f3 = some ⟨oc3, od3, .func (PySem.W.fnOf "_law_same_ints" "_law_same_ints" (defArgs s__law_same_ints) (defBody s__law_same_ints) (defScope s__law_same_ints) .none kV3 dc3 pm3 an3 cd3 ct3), sl3⟩) (c3 : PySem.W.codeIn K cd3 "_law_same_ints" = true) (k3 : PySem.W.keepIn K (.ref f3) = true)
    (a4 : PySem.W.nsIn K mainGlobals "_law_place" = some (some (.ref f4))) (l4 : K.lookup f4 = some ⟨oc4, od4, .func (PySem.W.fnOf "_law_place" "_law_place" (defArgs s__law_place) (defBody s__law_place) (defScope s__law_place) .none kV4 dc4 pm4 an4 cd4 ct4), sl4⟩) (c4 : PySem.W.codeIn K cd4 "_law_place" = true) (k4 : PySem.W.keepIn K (.ref f4) = true)
    (a5 : PySem.W.nsIn K mainGlobals "_law_byte" = some (some (.ref f5))) (l5 : K.lookup f5 = some ⟨oc5, od5, .func (PySem.W.fnOf "_law_byte" "_law_byte" (defArgs s__law_byte) (defBody s__law_byte) (defScope s__law_byte) .none kV5 dc5 pm5 an5 cd5 ct5), sl5⟩) (c5 : PySem.W.codeIn K cd5 "_law_byte" = true) (k5 : PySem.W.keepIn K (.ref f5) = true)
    (a6 : PySem.W.nsIn K mainGlobals "_law_window" = some (some (.ref f6))) (l6 : K.lookup f6 = some ⟨oc6, od6, .func (PySem.W.fnOf "_law_window" "_law_window" (defArgs s__law_window) (defBody s__law_window) (defScope s__law_window) .none kV6 dc6 pm6 an6 cd6 ct6), sl6⟩) (c6 : PySem.W.codeIn K cd6 "_law_window" = true) (k6 : PySem.W.keepIn K (.ref f6) = true)
    (a7 : PySem.W.nsIn K mainGlobals "law" = some (some (.ref f7))) (l7 : K.lookup f7 = some ⟨oc7, od7, .func (PySem.W.fnOf "law" "law" (defArgs s_law) (defBody s_law) (defScope s_law) .none kV7 dc7 pm7 an7 cd7 ct7), sl7⟩) (c7 : PySem.W.codeIn K cd7 "law" = true) (k7 : PySem.W.keepIn K (.ref f7) = true)
    (z_bool : PySem.W.nsIn K mainGlobals "bool" = some none)
    (z_enumerate : PySem.W.nsIn K mainGlobals "enumerate" = some none)
    (z_int : PySem.W.nsIn K mainGlobals "int" = some none)
    (z_isinstance : PySem.W.nsIn K mainGlobals "isinstance" = some none)
    (z_len : PySem.W.nsIn K mainGlobals "len" = some none)
    (z_list : PySem.W.nsIn K mainGlobals "list" = some none)
    (z_max : PySem.W.nsIn K mainGlobals "max" = some none)
    (z_min : PySem.W.nsIn K mainGlobals "min" = some none)
    (z_range : PySem.W.nsIn K mainGlobals "range" = some none)
    (z_sorted : PySem.W.nsIn K mainGlobals "sorted" = some none)
    {cC_Memory : Addr}
    (aC_Memory : PySem.W.nsIn K mainGlobals "Memory" = some (some (.ref cC_Memory)))
    {ki_PAGE_BYTES : Tok} (ai_PAGE_BYTES : PySem.W.nsIn K mainGlobals "PAGE_BYTES" = some (some (.int 65536 ki_PAGE_BYTES)))
    (pg_Memory : PySem.W.plainGet K cC_Memory Str.empty = true)
    (hd_Memory : PySem.W.hasDictIn K cC_Memory = true)
    (po_Memory : PySem.W.plainOver K cC_Memory = true)
    (sa_Memory : PySem.W.findIn K (.ref cC_Memory) "__setattr__" = some (some (.builtin "object.__setattr__")))
    (mk_Memory : PySem.W.makesIn K cC_Memory = true)
    (kc_Memory : PySem.W.keepIn K (.ref cC_Memory) = true)
    (na_Memory_pages : PySem.W.findIn K (.ref cC_Memory) "pages" = some none)
    (na_Memory_most : PySem.W.findIn K (.ref cC_Memory) "most" = some none)
    (na_Memory_cells : PySem.W.findIn K (.ref cC_Memory) "cells" = some none)
    (am8 : PySem.W.findIn K (.ref cC_Memory) "__init__" = some (some (.ref f8))) (im8 : PySem.W.isFn K (.ref f8) = true)
    (l8 : K.lookup f8 = some ⟨oc8, od8, .func (PySem.W.fnOf "__init__" "Memory.__init__" (defArgs s_Memory___init__) (defBody s_Memory___init__) (defScope s_Memory___init__) .none kV8 dc8 pm8 an8 cd8 ct8), sl8⟩) (c8 : PySem.W.codeIn K cd8 "Memory.__init__" = true) (k8 : PySem.W.keepIn K (.ref f8) = true)
    (am9 : PySem.W.findIn K (.ref cC_Memory) "size" = some (some (.ref f9))) (im9 : PySem.W.isFn K (.ref f9) = true)
    (l9 : K.lookup f9 = some ⟨oc9, od9, .func (PySem.W.fnOf "size" "Memory.size" (defArgs s_Memory_size) (defBody s_Memory_size) (defScope s_Memory_size) .none kV9 dc9 pm9 an9 cd9 ct9), sl9⟩) (c9 : PySem.W.codeIn K cd9 "Memory.size" = true) (k9 : PySem.W.keepIn K (.ref f9) = true)
    (am10 : PySem.W.findIn K (.ref cC_Memory) "read" = some (some (.ref f10))) (im10 : PySem.W.isFn K (.ref f10) = true)
    (l10 : K.lookup f10 = some ⟨oc10, od10, .func (PySem.W.fnOf "read" "Memory.read" (defArgs s_Memory_read) (defBody s_Memory_read) (defScope s_Memory_read) .none kV10 dc10 pm10 an10 cd10 ct10), sl10⟩) (c10 : PySem.W.codeIn K cd10 "Memory.read" = true) (k10 : PySem.W.keepIn K (.ref f10) = true)
    (am11 : PySem.W.findIn K (.ref cC_Memory) "write" = some (some (.ref f11))) (im11 : PySem.W.isFn K (.ref f11) = true)
    (l11 : K.lookup f11 = some ⟨oc11, od11, .func (PySem.W.fnOf "write" "Memory.write" (defArgs s_Memory_write) (defBody s_Memory_write) (defScope s_Memory_write) .none kV11 dc11 pm11 an11 cd11 ct11), sl11⟩) (c11 : PySem.W.codeIn K cd11 "Memory.write" = true) (k11 : PySem.W.keepIn K (.ref f11) = true)
    : ∃ fd : FuncData, (∀ (s : Shared) (v : Value), BindsTo s fd ⟨[v], []⟩ [("script", v)]) ∧ ∀ base : Heap, K.In base → base.Ns mainGlobals mg → FnOk l.prog w K mg base CX0 4 fa fd ["script"] (sp_lawK K) := by
  have e := hfa.symm.trans (PySem.W.mg_of X G a7)
  cases e
  have T : Tp w K mg (⟨cC_Memory⟩ : Cs) := ⟨PySem.W.mg_none_of X G z_bool, PySem.W.mg_none_of X G z_enumerate, PySem.W.mg_none_of X G z_int, PySem.W.mg_none_of X G z_isinstance, PySem.W.mg_none_of X G z_len, PySem.W.mg_none_of X G z_list, PySem.W.mg_none_of X G z_max, PySem.W.mg_none_of X G z_min, PySem.W.mg_none_of X G z_range, PySem.W.mg_none_of X G z_sorted, ⟨_, PySem.W.mg_of X G ai_PAGE_BYTES⟩, PySem.W.mg_of X G aC_Memory, ⟨pg_Memory, hd_Memory, po_Memory, sa_Memory⟩, na_Memory_pages, na_Memory_most, na_Memory_cells⟩
  have F0 := fun_mk (st := s__law_tape) l0 c0 k0
  have D__law_tape : Def K mg "_law_tape" s__law_tape ["script"] := ⟨_, _, F0, PySem.W.mg_of X G a0, F0.binds (ps := ["script"]) fun _ _ _ _ _ _ us hl => match us, hl with | [_], _ => rfl⟩
  have F1 := fun_mk (st := s__law_draw) l1 c1 k1
  have D__law_draw : Def K mg "_law_draw" s__law_draw ["tape", "at", "many"] := ⟨_, _, F1, PySem.W.mg_of X G a1, F1.binds (ps := ["tape", "at", "many"]) fun _ _ _ _ _ _ us hl => match us, hl with | [_, _, _], _ => rfl⟩
  have F2 := fun_mk (st := s__law_is_int) l2 c2 k2
  have D__law_is_int : Def K mg "_law_is_int" s__law_is_int ["actual"] := ⟨_, _, F2, PySem.W.mg_of X G a2, F2.binds (ps := ["actual"]) fun _ _ _ _ _ _ us hl => match us, hl with | [_], _ => rfl⟩
  have F3 := fun_mk (st := s__law_same_ints) l3 c3 k3
  have D__law_same_ints : Def K mg "_law_same_ints" s__law_same_ints ["actual", "due"] := ⟨_, _, F3, PySem.W.mg_of X G a3, F3.binds (ps := ["actual", "due"]) fun _ _ _ _ _ _ us hl => match us, hl with | [_, _], _ => rfl⟩
  have F4 := fun_mk (st := s__law_place) l4 c4 k4
  have D__law_place : Def K mg "_law_place" s__law_place ["tape", "at", "most", "last"] := ⟨_, _, F4, PySem.W.mg_of X G a4, F4.binds (ps := ["tape", "at", "most", "last"]) fun _ _ _ _ _ _ us hl => match us, hl with | [_, _, _, _], _ => rfl⟩
  have F5 := fun_mk (st := s__law_byte) l5 c5 k5
  have D__law_byte : Def K mg "_law_byte" s__law_byte ["tape", "at"] := ⟨_, _, F5, PySem.W.mg_of X G a5, F5.binds (ps := ["tape", "at"]) fun _ _ _ _ _ _ us hl => match us, hl with | [_, _], _ => rfl⟩
  have F6 := fun_mk (st := s__law_window) l6 c6 k6
  have D__law_window : Def K mg "_law_window" s__law_window ["memory", "model", "at", "count", "size"] := ⟨_, _, F6, PySem.W.mg_of X G a6, F6.binds (ps := ["memory", "model", "at", "count", "size"]) fun _ _ _ _ _ _ us hl => match us, hl with | [_, _, _, _, _], _ => rfl⟩
  have F7 := fun_mk (st := s_law) l7 c7 k7
  have F8 := fun_mk (st := s_Memory___init__) l8 c8 k8
  have D_Memory___init__ : DefI K (Cs.C_Memory (⟨cC_Memory⟩ : Cs)) "Memory.__init__" s_Memory___init__ ["self", "pages", "most"] := ⟨_, _, F8, ⟨mk_Memory, am8, im8, kc_Memory⟩, F8.binds (ps := ["self", "pages", "most"]) fun _ _ _ _ _ _ us hl => match us, hl with | [_, _, _], _ => rfl⟩
  have F9 := fun_mk (st := s_Memory_size) l9 c9 k9
  have D_Memory_size : DefM K (Cs.C_Memory (⟨cC_Memory⟩ : Cs)) "size" "Memory.size" s_Memory_size ["self"] := ⟨_, _, F9, ⟨am9, im9, k9⟩, F9.binds (ps := ["self"]) fun _ _ _ _ _ _ us hl => match us, hl with | [_], _ => rfl⟩
  have F10 := fun_mk (st := s_Memory_read) l10 c10 k10
  have D_Memory_read : DefM K (Cs.C_Memory (⟨cC_Memory⟩ : Cs)) "read" "Memory.read" s_Memory_read ["self", "at", "count"] := ⟨_, _, F10, ⟨am10, im10, k10⟩, F10.binds (ps := ["self", "at", "count"]) fun _ _ _ _ _ _ us hl => match us, hl with | [_, _, _], _ => rfl⟩
  have F11 := fun_mk (st := s_Memory_write) l11 c11 k11
  have D_Memory_write : DefM K (Cs.C_Memory (⟨cC_Memory⟩ : Cs)) "write" "Memory.write" s_Memory_write ["self", "at", "data"] := ⟨_, _, F11, ⟨am11, im11, k11⟩, F11.binds (ps := ["self", "at", "data"]) fun _ _ _ _ _ _ us hl => match us, hl with | [_, _, _], _ => rfl⟩
  refine ⟨PySem.W.fnOf "law" "law" (defArgs s_law) (defBody s_law) (defScope s_law) .none kV7 dc7 pm7 an7 cd7 ct7, fun s v => .of_eq rfl, fun base _ _ => ?_⟩
  have C__law_tape : Cal l.prog w K mg base CX0 1 "_law_tape" (sp__law_tape K (⟨cC_Memory⟩ : Cs)) := c__law_tape D__law_tape T 
  have C__law_draw : Cal l.prog w K mg base CX0 1 "_law_draw" (sp__law_draw K (⟨cC_Memory⟩ : Cs)) := c__law_draw D__law_draw T 
  have C_Memory___init__ : CalI l.prog w K mg base CX0 (Cs.C_Memory (⟨cC_Memory⟩ : Cs)) 1 (sp_Memory___init__ K (⟨cC_Memory⟩ : Cs)) := c_Memory___init__ D_Memory___init__ T 
  have C__law_place : Cal l.prog w K mg base CX0 2 "_law_place" (sp__law_place K (⟨cC_Memory⟩ : Cs)) := c__law_place D__law_place T C__law_draw
  have C_Memory_write : CalM l.prog w K mg base CX0 (Cs.C_Memory (⟨cC_Memory⟩ : Cs)) 1 "write" (sp_Memory_write K (⟨cC_Memory⟩ : Cs)) := c_Memory_write D_Memory_write T 
  have C__law_byte : Cal l.prog w K mg base CX0 2 "_law_byte" (sp__law_byte K (⟨cC_Memory⟩ : Cs)) := c__law_byte D__law_byte T C__law_draw
  have C_Memory_read : CalM l.prog w K mg base CX0 (Cs.C_Memory (⟨cC_Memory⟩ : Cs)) 1 "read" (sp_Memory_read K (⟨cC_Memory⟩ : Cs)) := c_Memory_read D_Memory_read T 
  have C__law_is_int : Cal l.prog w K mg base CX0 1 "_law_is_int" (sp__law_is_int K (⟨cC_Memory⟩ : Cs)) := c__law_is_int D__law_is_int T 
  have C__law_same_ints : Cal l.prog w K mg base CX0 2 "_law_same_ints" (sp__law_same_ints K (⟨cC_Memory⟩ : Cs)) := c__law_same_ints D__law_same_ints T C__law_is_int
  have C__law_window : Cal l.prog w K mg base CX0 3 "_law_window" (sp__law_window K (⟨cC_Memory⟩ : Cs)) := c__law_window D__law_window T C_Memory_read C__law_same_ints
  have C_Memory_size : CalM l.prog w K mg base CX0 (Cs.C_Memory (⟨cC_Memory⟩ : Cs)) 1 "size" (sp_Memory_size K (⟨cC_Memory⟩ : Cs)) := c_Memory_size D_Memory_size T 
  exact c_law F7 T C__law_tape C__law_draw C_Memory___init__ C__law_place C_Memory_write C__law_byte C__law_window C__law_is_int C_Memory_size
theorem walk {l : PySem.W.OpenLaw} {q : Program} {loose : List Str} {XP : (Str → Option Value) → Heap → Prop} {YP : World → Heap → Prop} {d : DefRec} {K : Params → PySem.W.Frag} (hn : l.most = some 63) (hdf : d.params.defaults = [])
    (hY : ∀ (w : World) (h : Heap), YP w h → (K w.params).In h)
    (F : ∀ (w : World) (mg : Str → Option Value) (fa : Addr) (h : Heap), (K w.params).In h → h.Ns mainGlobals mg → mg d.name = some (.ref fa) →
      ∃ fd : FuncData, (∀ (s : Shared) (u : Value), BindsTo s fd ⟨[u], []⟩ [("script", u)]) ∧ ∀ base : Heap, (K w.params).In base → base.Ns mainGlobals mg → FnOk l.prog w (K w.params) mg base CX0 4 fa fd ["script"] (sp_lawK (K w.params))) :
    PySem.W.WalkO q loose XP YP l.row.toRowW d [] (fun f vs => PySem.call f vs) :=
  L2.walk_of (n := 63) (k := 4) (x := "script") (CX := fun _ => CX0) (sp := fun w => sp_lawK (K w.params)) hn (by decide) hdf ⟨rfl, by decide, by decide⟩ hY F (fun _ _ a ns hl _ hS => ⟨a, ns, rfl, hS, hl, fun _ => rfl⟩) fun _ _ _ _ _ z => z
end V
open PySem PySem.W PyProof.Rows
set_option maxRecDepth 100000 in
set_option maxHeartbeats 0 in
theorem PySem.Challenge.cw_wasmhost_k40_memory_is_an_array_holds : PySem.Challenge.rw_wasmhost_k40_memory_is_an_array.Holds := by
  w_on; o_law; k_head; (case hw => w_witness2)
  k_fill
  refine V.walk (l := PySem.Challenge.rw_wasmhost_k40_memory_is_an_array) rfl rfl (fun w h Y => PySem.W.kIn_of Y) ?F
  case F =>
    intro w mg fa h KX G hmg
    refine' V.all_mk KX G hmg ?a0 ?l0 ?c0 ?k0 ?a1 ?l1 ?c1 ?k1 ?a2 ?l2 ?c2 ?k2 ?a3 ?l3 ?c3 ?k3 ?a4 ?l4 ?c4 ?k4 ?a5 ?l5 ?c5 ?k5 ?a6 ?l6 ?c6 ?k6 ?a7 ?l7 ?c7 ?k7 ?z_bool ?z_enumerate ?z_int ?z_isinstance ?z_len ?z_list ?z_max ?z_min ?z_range ?z_sorted ?aC_Memory ?ai_PAGE_BYTES ?pg_Memory ?hd_Memory ?po_Memory ?sa_Memory ?mk_Memory ?kc_Memory ?na_Memory_pages ?na_Memory_most ?na_Memory_cells ?am8 ?im8 ?l8 ?c8 ?k8 ?am9 ?im9 ?l9 ?c9 ?k9 ?am10 ?im10 ?l10 ?c10 ?k10 ?am11 ?im11 ?l11 ?c11 ?k11
    (case a0 => k_is)
    (case l0 => k_is)
    (case c0 => k_is)
    (case k0 => k_is)
    (case a1 => k_is)
    (case l1 => k_is)
    (case c1 => k_is)
    (case k1 => k_is)
    (case a2 => k_is)
    (case l2 => k_is)
    (case c2 => k_is)
    (case k2 => k_is)
    (case a3 => k_is)
    (case l3 => k_is)
    (case c3 => k_is)
    (case k3 => k_is)
    (case a4 => k_is)
    (case l4 => k_is)
    (case c4 => k_is)
    (case k4 => k_is)
    (case a5 => k_is)
    (case l5 => k_is)
    (case c5 => k_is)
    (case k5 => k_is)
    (case a6 => k_is)
    (case l6 => k_is)
    (case c6 => k_is)
    (case k6 => k_is)
    (case a7 => k_is)
    (case l7 => k_is)
    (case c7 => k_is)
    (case k7 => k_is)
    (case z_bool => k_is)
    (case z_enumerate => k_is)
    (case z_int => k_is)
    (case z_isinstance => k_is)
    (case z_len => k_is)
    (case z_list => k_is)
    (case z_max => k_is)
    (case z_min => k_is)
    (case z_range => k_is)
    (case z_sorted => k_is)
    (case aC_Memory => k_is)
    (case ai_PAGE_BYTES => k_is)
    (case pg_Memory => k_is)
    (case hd_Memory => k_is)
    (case po_Memory => k_is)
    (case sa_Memory => k_is)
    (case mk_Memory => k_is)
    (case kc_Memory => k_is)
    (case na_Memory_pages => k_is)
    (case na_Memory_most => k_is)
    (case na_Memory_cells => k_is)
    (case am8 => k_is)
    (case im8 => k_is)
    (case l8 => k_is)
    (case c8 => k_is)
    (case k8 => k_is)
    (case am9 => k_is)
    (case im9 => k_is)
    (case l9 => k_is)
    (case c9 => k_is)
    (case k9 => k_is)
    (case am10 => k_is)
    (case im10 => k_is)
    (case l10 => k_is)
    (case c10 => k_is)
    (case k10 => k_is)
    (case am11 => k_is)
    (case im11 => k_is)
    (case l11 => k_is)
    (case c11 => k_is)
    (case k11 => k_is)
#print axioms PySem.Challenge.cw_wasmhost_k40_memory_is_an_array_holds


