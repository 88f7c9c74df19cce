import PyProof.Rows.All
import Wide.All
import OpenK.AllK
import Wide.FinOn
import KE.KBits
import KE.BitLaws
import HandS.ForMost
import HandS.ForExc
import HandS.IsInst
import HandS.Wide
import HandS.WideBits
import HandS.WideMore
import HandS.Flow
import HandS.ExcInit
import HandS.Codes
import HandS.ExcField
import HandS.ExcIs
import KE.KExcIs
import KE.KIsAll
import HandS.More
import HandS.Dict
import HandS.CallLocal
import HandS.Zip
import HandS.Text
import HandS.Conv
import HandS.WrittenGet
import PyProof.Rows.StrMeet
import PySem.Challenge.RW_wasmhost_k08_operands_refused
set_option Elab.async false
set_option linter.all false
set_option maxRecDepth 100000
set_option maxHeartbeats 4000000
namespace V
open PySem PySem.Spec PyProof.Rows L2
/-! ### a def that may be called by its name -/
structure Cal (P : Program) (w : World) (K : PySem.W.Frag) (mg : Str → Option Value) (base : Heap) (C : CXT) (k : Nat) (x : Str) (sp : Sp) : Prop where
  ex : ∃ (f : Addr) (fd : FuncData) (ps : List Str), FnOk P w K mg base C k f fd ps sp ∧ mg x = some (.ref f) ∧ PySem.W.keepIn K (.ref f) = true ∧ Binds K fd ps []
section
variable {P : Program} {w : World} {K : PySem.W.Frag} {mg : Str → Option Value} {base : Heap} {k : Nat} {x : Str} {sp sp' : Sp} {C : CXT}
theorem Cal.mono (c : Cal P w K mg base C k x sp) {j : Nat} (h : k ≤ j) : Cal P w K mg base C j x sp := by
  obtain ⟨f, fd, ps, F, m, kp, b⟩ := c.ex
  exact ⟨f, fd, ps, F.mono h, m, kp, b⟩
theorem Cal.imp (c : Cal P w K mg base C k x sp) (h : ∀ vs H Q E, sp' vs H Q E → sp vs H Q E) : Cal P w K mg base C k x sp' := by
  obtain ⟨f, fd, ps, F, m, kp, b⟩ := c.ex
  exact ⟨f, fd, ps, F.imp h, m, kp, b⟩
/-- a def as the top leaves it -/
structure Def (K : PySem.W.Frag) (mg : Str → Option Value) (x : Str) (st : Stmt) (ps : List Str) : Prop where
  ex : ∃ (f : Addr) (fd : FuncData), L2.Fun K x x st f fd ∧ mg x = some (.ref f) ∧ Binds K fd ps []
theorem Def.ok {st : Stmt} {N ps : List Str} (D : Def K mg x st ps) (S : FnScope N ps (defScope st)) (len : ∀ vs H Q E, sp vs H Q E → vs.length = ps.length)
    (hbody : ∀ (f : Addr) (cdv : Value) (A : Around) (outer : List Env) (s : Shared) (H : Hp) (vs : List V) (Q : VK) (E : XK), Room k (A.deeper (envOfC x (defScope st) s.heap.objs.size f cdv)) → sp vs H Q E →
      ∃ t, PSs (cxOf CX0 P w K mg base N x (defScope st) f cdv A outer s H E).nox (defBody st) t ∧ t { nx := fun _ H' => Q .non H', rt := Q } (start N vs) H) : Cal P w K mg base CX0 (k + 1) x sp := by
  obtain ⟨f, fd, F, m, b⟩ := D.ex
  exact ⟨f, fd, ps, F.ok S len (hbody f), m, F.kp, b⟩
theorem Def.okX {st : Stmt} {N ps : List Str} (D : Def K mg x st ps) (S : FnScope N ps (defScope st)) (len : ∀ vs H Q E, sp vs H Q E → vs.length = ps.length)
    (hbody : ∀ (f : Addr) (cdv : Value) (A : Around) (outer : List Env) (s : Shared) (H : Hp) (vs : List V) (Q : VK) (E : XK), Room k (A.deeper (envOfC x (defScope st) s.heap.objs.size f cdv)) → sp vs H Q E →
      ∃ t, PSs (cxOf (L2.CX P w) P w K mg base N x (defScope st) f cdv A outer s H E) (defBody st) t ∧ t { nx := fun _ H' => Q .non H', rt := Q } (start N vs) H) : Cal P w K mg base (L2.CX P w) (k + 1) x sp := by
  obtain ⟨f, fd, F, m, b⟩ := D.ex
  exact ⟨f, fd, ps, F.okX S len (hbody f), m, F.kp, b⟩
end
section
variable {X : Cx} {k j : Nat} {x : Str} {sp : Sp} {p pos : Pos} {e : Expr} {es : List Expr} {t : TA} {C : CXT} {E : XK}
theorem pe_cE (c : Cal X.prog X.w X.K X.mg X.base C k x sp) (hr : Room j X.A) (hk : k ≤ j) (hx : Passes C X E) (hg : Gl X x) (ha : PA X (e :: es) t)
    (hdb : (x == ("__debug__" : Str)) = false := by decide) (he : starEach (e :: es) X.env = (false, eval e X.env) :: starEach es X.env := by rfl) (hpl : (backTo pos (starEach es X.env)).any (·.1) = false := by rfl) :
    PE X (.Call (.Name x p) (e :: es) [] pos) (tCall sp [] E t) := by
  obtain ⟨f, fd, ps, F, hm, kp, b⟩ := c.ex
  exact pe_call F (hr.mono hk) hg hm kp b .nil hx ha hdb he hpl
theorem pe_cE0 (c : Cal X.prog X.w X.K X.mg X.base C k x sp) (hr : Room j X.A) (hk : k ≤ j) (hx : Passes C X E) (hg : Gl X x)
    (hdb : (x == ("__debug__" : Str)) = false := by decide) : PE X (.Call (.Name x p) [] [] pos) (tCall sp [] E tNil) := by
  obtain ⟨f, fd, ps, F, hm, kp, b⟩ := c.ex
  exact pe_call0 F (hr.mono hk) hg hm kp b .nil hx hdb
/-- a def that lets nothing out -/
theorem pe_c (c : Cal X.prog X.w X.K X.mg X.base CX0 k x sp) (hr : Room j X.A) (hk : k ≤ j) (hg : Gl X x) (ha : PA X (e :: es) t)
    (hdb : (x == ("__debug__" : Str)) = false := by decide) (he : starEach (e :: es) X.env = (false, eval e X.env) :: starEach es X.env := by rfl) (hpl : (backTo pos (starEach es X.env)).any (·.1) = false := by rfl) :
    PE X (.Call (.Name x p) (e :: es) [] pos) (tCall sp [] E0 t) := pe_cE c hr hk pass0 hg ha hdb he hpl
theorem pe_c0 (c : Cal X.prog X.w X.K X.mg X.base CX0 k x sp) (hr : Room j X.A) (hk : k ≤ j) (hg : Gl X x)
    (hdb : (x == ("__debug__" : Str)) = false := by decide) : PE X (.Call (.Name x p) [] [] pos) (tCall sp [] E0 tNil) := pe_cE0 c hr hk pass0 hg hdb
end
section
variable {X : Cx} {k j : Nat} {x : Str} {sp : Sp} {p pos : Pos} {e : Expr} {es : List Expr} {t : TA} {C : CXT} {E : L2.St → XK}
/-- a call within a try -/
theorem pe_cS (c : Cal X.prog X.w X.K X.mg X.base C k x sp) (hr : Room j X.A) (hk : k ≤ j) (hg : Gl X x) (hx : ∀ σ, PassesAt C X σ (E σ)) (ha : PA X (e :: es) t)
    (hdb : (x == ("__debug__" : Str)) = false := by decide) (he : starEach (e :: es) X.env = (false, eval e X.env) :: starEach es X.env := by rfl) (hpl : (backTo pos (starEach es X.env)).any (·.1) = false := by rfl) : PE X (.Call (.Name x p) (e :: es) [] pos) (tCallS sp E t) := by
  obtain ⟨f, fd, ps, F, hm, kp, b⟩ := c.ex
  exact pe_callS F (hr.mono hk) hg hm kp b hx ha hdb he hpl
end
theorem hu64 {A : Around} {k : Nat} (hr : Room k A) : A.units + 64 < cLine := by have := hr.un; omega
/-! ### numbers -/
theorem small64 {n : Nat} (h : n ≤ 1000000) : n ≤ sizeLine := Nat.le_trans h (by decide)
theorem small64' {n : Nat} (h : n ≤ 1000000) : n < sizeLine := Nat.lt_of_le_of_lt h (by decide)
theorem shl1 {j : Int} (h : 0 ≤ j) (h2 : j ≤ 100000) : CShl 1 j := by
  obtain ⟨n, rfl⟩ := Int.eq_ofNat_of_zero_le h
  exact shl_ok (n := 1) (by decide) (by omega)
theorem shlN {i j : Int} (hi : i.natAbs < 2 ^ 1000) (h : 0 ≤ j) (h2 : j ≤ 100000) : CShl i j := by
  obtain ⟨n, rfl⟩ := Int.eq_ofNat_of_zero_le h
  exact shl_ok (n := 1000) hi (by omega)
theorem pow_pos2 (k : Nat) : (0 : Int) < 2 ^ k := PySem.W.kbt_pos k
/-! ### heaps -/
theorem Same.new {H : Hp} {p : Addr} {o : HO} (h : H p = none) : Same H (upd H p o) := fun b x e => by
  rw [upd_ne (ne_of_none e h)]; exact e
theorem SqL.new {K : PySem.W.Frag} {H : Hp} {p : Addr} {xs : List V} : SqL K (upd H p (.lst xs)) p xs := .inl (.inl upd_same)
theorem SqT.new {K : PySem.W.Frag} {H : Hp} {p : Addr} {xs : List V} : SqT K (upd H p (.tup xs)) p xs := .inl (.inl upd_same)

/-! ### operators in the words that the readings like -/
section
variable {X : Cx}
/-- i << j, i of a usual size -/
theorem op_shlS : OpR X (binaryOp .LShift) (fun x y H Q => ∃ i j : Int, x = .int i ∧ y = .int j ∧ (i.natAbs < 2 ^ 1000 ∧ 0 ≤ j ∧ j ≤ 100000) ∧ Q (.int (i * 2 ^ j.toNat)) H) := by
  intro pins s σ H x y v u Q I rx ry h
  obtain ⟨i, j, rfl, rfl, ⟨c0, c1, c2⟩, q⟩ := h
  exact op_shlW pins s σ H _ _ v u Q I rx ry ⟨i, j, rfl, rfl, shlN c0 c1 c2, q⟩
theorem nat_small {i : Int} (h : i.natAbs ≤ 18446744073709551616) : i.natAbs < 2 ^ 1000 := Nat.lt_of_le_of_lt h (by decide +kernel)
/-- 1 << j -/
theorem op_shl1 : OpR X (binaryOp .LShift) (fun x y H Q => ∃ j : Int, x = .int 1 ∧ y = .int j ∧ (0 ≤ j ∧ j ≤ 100000) ∧ Q (.int (2 ^ j.toNat)) H) := by
  intro pins s σ H x y v u Q I rx ry h
  obtain ⟨j, rfl, rfl, ⟨c1, c2⟩, q⟩ := h
  refine op_shlW pins s σ H _ _ v u Q I rx ry ⟨1, j, rfl, rfl, shl1 c1 c2, ?_⟩
  show Q (.int (1 * 2 ^ j.toNat)) H
  rw [Int.one_mul]; exact q
end
/-- isinstance(x, T) of a value of a type of its own -/
theorem isi_int {K : PySem.W.Frag} {H : Hp} {i : Int} {Q : VK} (q : Q (.bl true) H) : rIsi K [.int i, .ty "int"] H Q := ⟨.int i, .ty "int", _, _, true, rfl, .ty _, .base (.int _), kit_ty (by decide +kernel), q⟩
theorem isi_int_bool {K : PySem.W.Frag} {H : Hp} {i : Int} {Q : VK} (q : Q (.bl false) H) : rIsi K [.int i, .ty "bool"] H Q := ⟨.int i, .ty "bool", _, _, false, rfl, .ty _, .base (.int _), kit_ty (by decide +kernel), q⟩
theorem isi_list {K : PySem.W.Frag} {H : Hp} {a : Addr} {xs : List V} {Q : VK} (h : H a = some (.lst xs)) (q : Q (.bl true) H) : rIsi K [.ref a, .ty "list"] H Q := ⟨.ref a, .ty "list", _, _, true, rfl, .ty _, .base (.lst h), kit_ty (by decide +kernel), q⟩
theorem isi_tup {K : PySem.W.Frag} {H : Hp} {a : Addr} {xs : List V} {Q : VK} (h : H a = some (.tup xs)) (q : Q (.bl true) H) : rIsi K [.ref a, .ty "tuple"] H Q := ⟨.ref a, .ty "tuple", _, _, true, rfl, .ty _, .base (.tup h), kit_ty (by decide +kernel), q⟩
theorem isi_str {K : PySem.W.Frag} {H : Hp} {z : Str} {Q : VK} (q : Q (.bl true) H) : rIsi K [.str z, .ty "str"] H Q := ⟨.str z, .ty "str", _, _, true, rfl, .ty _, .base (.str _), kit_ty (by decide +kernel), q⟩
/-! ### lists of ints -/
theorem at_ints {ns : List Int} {k : Nat} (h : k < ns.length) : atI (ns.map V.int) (k : Int) = some (.int (ns.getD k 0)) := atI_nat (by
  rw [List.getElem?_map, List.getElem?_eq_getElem h, List.getD_eq_getElem?_getD, List.getElem?_eq_getElem h]; rfl)
theorem cut_to (xs : List V) (k : Nat) : cutV xs none (some (k : Int)) = xs.take k := by
  unfold cutV
  rw [HT.sIx_nat, HT.sIx_none, List.drop_zero, Nat.sub_zero]
  rcases Nat.le_total k xs.length with h | h
  · rw [Nat.min_eq_left h]
  · rw [Nat.min_eq_right h, List.take_length, List.take_of_length_le h]
theorem cut_from (xs : List V) (k : Nat) : cutV xs (some (k : Int)) none = xs.drop k := by
  unfold cutV
  rw [HT.sIx_nat, HT.sIx_none]
  rcases Nat.le_total k xs.length with h | h
  · rw [Nat.min_eq_left h]; exact List.take_of_length_le (by rw [List.length_drop]; exact Nat.le_refl _)
  · rw [Nat.min_eq_right h, Nat.sub_self, List.take_zero, List.drop_eq_nil_of_le h]
/-! ### a reading, gone through as far as it goes by sight -/
local macro_rules | `(tactic| walk_at "side") => `(tactic| first
  | (show _ = _; rfl)
  | (show (0 : Int) < _; first | omega | exact pow_pos2 _)
  | (show (0 : Int) ≤ _; omega)
  | (show (0 : Int) ≤ _ ∧ _; constructor <;> omega)
  | (show (0 : Int) < _ ∧ _; constructor <;> omega)
  | (show (_ < _ ∧ _ < _) ∨ (_ < _ ∧ _ < _); first | exact .inl ⟨by omega, by omega⟩ | exact .inr ⟨by omega, by omega⟩))
local macro_rules | `(tactic| walk_at "loop") => `(tactic| (show ∃ W : (Nat → Nat → L2.St → Hp → Prop), _))
local macro_rules | `(tactic| walk_at "go1") => `(tactic| (fail_if_success walk_at "loop"); first
  | refine And.intro (show (_ : Int) ≤ _ by omega) ?_
  | refine ⟨_, rfl, ?_⟩
  | refine ⟨_, _, rfl, rfl, ?_⟩
  | refine ⟨_, rfl, rfl, ?_⟩
  | refine .inl ⟨_, rfl, ?_⟩
  | refine ⟨_, .ty "int", _, _, true, rfl, .ty _, .base (.int _), kit_ty (by decide +kernel), ?_⟩
  | refine ⟨_, .ty "bool", _, _, false, rfl, .ty _, .base (.int _), kit_ty (by decide +kernel), ?_⟩
  | refine ⟨_, .ty "bool", _, _, false, rfl, .ty _, .base (.str _), kit_ty (by decide +kernel), ?_⟩
  | refine ⟨_, .ty "str", _, _, true, rfl, .ty _, .base (.str _), kit_ty (by decide +kernel), ?_⟩
  | refine ⟨_, .ty "list", _, _, true, rfl, .ty _, .base (.lst (by assumption)), kit_ty (by decide +kernel), ?_⟩
  | refine ⟨_, .ty "tuple", _, _, true, rfl, .ty _, .base (.tup (by assumption)), kit_ty (by decide +kernel), ?_⟩
  | refine ⟨_, _, rfl, .inl (by assumption), ?_⟩
  | refine ⟨_, _, rfl, .inr (by assumption), ?_⟩
  | refine ⟨_, _, rfl, ?_⟩
  | refine ⟨_, _, _, _, rfl, rfl, by assumption, at_ints (by omega), ?_⟩
  | refine ⟨_, _, _, _, rfl, rfl, by assumption, rfl, ?_⟩
  | refine iteF ?_
  | refine iteT ?_
  | refine iteNS rfl ?_
  | (refine And.intro ?h1 ?h2; case h1 => first
    | walk_at "side"
    | assumption
    | (show (_ : Nat) ≤ _; omega)
    | (show (_ : Int) ≤ _; omega)
    | (show (_ : Int) < _; omega)
    | (show 0 ≤ sizeLine; decide)
    | (show 1 ≤ sizeLine; decide)
    | (show 2 ≤ sizeLine; decide)
    | (show 3 ≤ sizeLine; decide)
    | (show 4 ≤ sizeLine; decide)
    | (show (_ : Nat) ≤ _; decide)))
local macro_rules | `(tactic| walk_at "go") => `(tactic| repeat walk_at "go1")
/-! ### tests that read alone, loops -/
theorem tor_b {t u : TT} {σ : L2.St} {H : Hp} {Q : Bool → Hp → Prop} (b1 b2 : Bool) (h1 : ∀ Q, Q b1 H → t σ H Q) (h2 : ∀ Q, Q b2 H → u σ H Q) (q : Q (b1 || b2) H) : tOr t u σ H Q := by
  refine h1 _ ?_
  cases b1 with
  | true => rw [if_pos rfl]; exact q
  | false => rw [if_neg (by decide)]; exact h2 _ q
theorem tand_b {t u : TT} {σ : L2.St} {H : Hp} {Q : Bool → Hp → Prop} (b1 b2 : Bool) (h1 : ∀ Q, Q b1 H → t σ H Q) (h2 : ∀ Q, Q b2 H → u σ H Q) (q : Q (b1 && b2) H) : tAnd t u σ H Q := by
  refine h1 _ ?_
  cases b1 with
  | true => rw [if_pos rfl]; exact h2 _ q
  | false => rw [if_neg (by decide)]; exact q
theorem while_ev {c : TT} {tb : TS} {D : Ends} {σ : L2.St} {H : Hp} (Pv : L2.St → Hp → Prop) (μ : L2.St → Hp → Nat) (h0 : Pv σ H)
    (hs : ∀ σ H, Pv σ H → ∃ b : Bool, (∀ Q, Q b H → c σ H Q) ∧ (b = true → tb { D with nx := fun σ' H' => Pv σ' H' ∧ μ σ' H' < μ σ H, ct := fun σ' H' => Pv σ' H' ∧ μ σ' H' < μ σ H, bk := D.nx } σ H) ∧ (b = false → D.nx σ H)) : tWhile c tb D σ H := by
  refine ⟨fun m σ H => m = μ σ H ∧ Pv σ H, ⟨_, rfl, h0⟩, ?_⟩
  rintro m σ H ⟨rfl, p⟩
  obtain ⟨b, h1, h2, h3⟩ := hs σ H p
  refine h1 _ ?_
  cases b with
  | true => exact ⟨_, fun σ' H' ⟨p', l⟩ => ⟨_, l, rfl, p'⟩, h2 rfl⟩
  | false => exact h3 rfl
/-- the loops' bookkeeping, with what follows and what returns told apart -/
theorem for_listD {K : PySem.W.Frag} {a : Addr} {xs : List V} {g : TG} {tb : TS} {nx : L2.St → Hp → Prop} {rt : VK} {σ : L2.St} {H : Hp} (Pv : Nat → L2.St → Hp → Prop) (h0 : Pv 0 σ H) (hl : ∀ i σ H, i ≤ xs.length → Pv i σ H → SqL K H a xs)
    (hs : ∀ i x σ H, xs[i]? = some x → Pv i σ H → g x σ H fun σ2 H2 => tb { nx := Pv (i + 1), rt := rt, bk := nx, ct := Pv (i + 1) } σ2 H2) (hd : ∀ σ H, Pv xs.length σ H → nx σ H) :
    ∃ W : Nat → Nat → L2.St → Hp → Prop, (∃ m, W 0 m σ H) ∧ ∀ i m σ H, W i m σ H → ((Itl K a).stop i H ∧ nx σ H) ∨ ((Itl K a).go i H ∧ ∃ N : L2.St → Hp → Prop, (∀ σ' H', N σ' H' → ∃ m', m' < m ∧ W (i + 1) m' σ' H') ∧
      ∀ x H', (Itl K a).yld i H x H' → g x σ H' fun σ2 H2 => tb { nx := N, rt := rt, bk := nx, ct := N } σ2 H2) := for_list (D := { nx := nx, rt := rt }) Pv h0 hl hs hd
theorem for_rangeD {lo : Int} {n : Nat} {g : TG} {tb : TS} {nx : L2.St → Hp → Prop} {rt : VK} {σ : L2.St} {H : Hp} (Pv : Nat → L2.St → Hp → Prop) (h0 : Pv 0 σ H)
    (hs : ∀ i σ H, i < n → Pv i σ H → g (.int (lo + i)) σ H fun σ2 H2 => tb { nx := Pv (i + 1), rt := rt, bk := nx, ct := Pv (i + 1) } σ2 H2) (hd : ∀ σ H, Pv n σ H → nx σ H) :
    ∃ W : Nat → Nat → L2.St → Hp → Prop, (∃ m, W 0 m σ H) ∧ ∀ i m σ H, W i m σ H → ((Itr lo n).stop i H ∧ nx σ H) ∨ ((Itr lo n).go i H ∧ ∃ N : L2.St → Hp → Prop, (∀ σ' H', N σ' H' → ∃ m', m' < m ∧ W (i + 1) m' σ' H') ∧
      ∀ x H', (Itr lo n).yld i H x H' → g x σ H' fun σ2 H2 => tb { nx := N, rt := rt, bk := nx, ct := N } σ2 H2) := for_range (D := { nx := nx, rt := rt }) Pv h0 hs hd
/-! ### a comprehension that makes f of each item -/
theorem lc_map {K : PySem.W.Frag} {a : Addr} {xs : List V} {j : Nat} {te : TE} {σ : L2.St} {H1 : Hp} {D : Addr} {Qd : Hp → Prop} (f : V → V) (hD : H1 D = none) (hS : SqL K H1 a xs) (hn : xs.length ≤ 100000)
    (hs : ∀ x H Q, x ∈ xs → Same H1 H → (∀ H', Same H H' → Q (f x) H') → te ((σ.set j none).set j (some x)) H Q) (hd : ∀ H, Same H1 H → H D = some (.lst (xs.map f)) → Qd H) :
    ∃ W : Nat → Nat → Hp → Prop, (∃ m, W 0 m (upd H1 D (.lst []))) ∧ ∀ i m H, W i m H →
      ((Itl K a).stop i H ∧ Qd H) ∨ ((Itl K a).go i H ∧ ∃ Nx : Hp → Prop, (∀ H', Nx H' → ∃ m', m' < m ∧ W (i + 1) m' H') ∧ ∀ x H', (Itl K a).yld i H x H' → gName j x (wipe σ [j]) H' fun σ2 H2 => wipe σ2 [j] = wipe σ [j] ∧ tYes σ2 H2 fun b H3 =>
        if b = true then te σ2 H3 fun y H4 => ∃ acc, H4 D = some (.lst acc) ∧ acc.length < sizeLine ∧ Nx (upd H4 D (.lst (acc ++ [y]))) else Nx H3) := by
  refine lc_list (xs := xs) (fun i H => Same H1 H ∧ H D = some (.lst ((xs.take i).map f))) ⟨Same.new hD, by rw [upd_same]; rfl⟩ (fun i H _ h => h.1.seq hS) (fun i x H hx h => ?_) (fun H h => hd H h.1 (by rw [List.take_length] at h; exact h.2))
  have hi : i < xs.length := (List.getElem?_eq_some_iff.mp hx).1
  refine ⟨?_, ?_⟩
  · show (((σ.set j none).set j (some x)).set j none) = σ.set j none
    rw [List.set_set, List.set_set]
  · simp only [tYes, if_true]
    refine hs x H _ (List.mem_of_getElem? hx) h.1 fun H' s' => ?_
    refine ⟨_, s' _ _ h.2, ?_, fun b o e => ?_, ?_⟩
    · rw [List.length_map, List.length_take]; exact small64' (by omega)
    · have nb : b ≠ D := fun z => by rw [z, hD] at e; cases e
      rw [upd_ne nb]; exact s' _ _ (h.1 _ _ e)
    · rw [upd_same, List.take_add_one, hx, List.map_append]; rfl

/-! ### own errors with fields -/
/-- what the top has written of an own error's class, whose base is ValueError by some way -/
structure ExK (K : PySem.W.Frag) (mg : Str → Option Value) (x : Str) (C : Addr) : Prop where
  g : mg x = some (.ref C)
  T : OexC K C
  ga : PySem.W.findIn K (.ref C) "__getattribute__" = some (some (.builtin "BaseException.__getattribute__"))
  gg : PySem.W.findIn K (.ref C) "__getattr__" = some none
  hd : PySem.W.hasDictIn K C = true
  ca : PySem.W.findIn K (.ref C) "__class__" = some (some (.builtin "object.__class__"))
  sp : PySem.W.specialIn K (.builtin "object.__class__") "__get__" = some (some (.builtin "getset_descriptor.__get__"))
  tk : PySem.W.takesIn K (.builtin "object.__class__") = some true
  mr : PySem.W.mroIn K C (.type "object") = some true
theorem ExK.xf {K : PySem.W.Frag} {mg : Str → Option Value} {x : Str} {C : Addr} (k : ExK K mg x C) : XfC K C := ⟨k.ga, k.gg, k.T.exC, k.hd⟩
def spI1 (K : PySem.W.Frag) (C : Addr) (a : Str) : Sp := fun vs H Q _ => ∃ (s : Addr) (v : V), vs = [.ref s, v] ∧ H s = some (exo s C none) ∧
  ∀ d, H d = none → d ≠ s → Q .non (upd (upd H d (exd d [(a, v)])) s (exo s C (some d)))
def spI2 (K : PySem.W.Frag) (C : Addr) (a b : Str) : Sp := fun vs H Q _ => ∃ (s : Addr) (v u : V), vs = [.ref s, v, u] ∧ H s = some (exo s C none) ∧
  ∀ d, H d = none → d ≠ s → Q .non (upd (upd (upd H d (exd d [(a, v)])) s (exo s C (some d))) d (exd d [(b, u), (a, v)]))
theorem del_upd {H : Hp} {s d : Addr} {o o' : HO} (hs : H s = none) (hd : H d = none) (ne : d ≠ s) {K : Hp} (hK : ∀ b, b ≠ s → b ≠ d → K b = H b) : Same H (upd (del K s) d o) := fun b x e => by
  have nd : b ≠ d := ne_of_none e hd
  have ns : b ≠ s := ne_of_none e hs
  rw [upd_ne nd, del_ne ns, hK b ns nd]; exact e
/-- X(v): an error flies whose dict, new at d, holds the field; all else stands -/
theorem fly1 {K : PySem.W.Frag} {C : Addr} {a : Str} {v : V} {H : Hp} {Q : XK} (h : ∀ d Hf, Same H Hf → Hf d = some (.xd [(a, v)]) → Q (.ref C) (some d) Hf) :
    ([v] : List V).length ≤ 1000 ∧ ∀ s, H s = none → spI1 K C a (.ref s :: ([v] ++ [])) (upd H s (exo s C none))
      (fun v H2 => v = .non ∧ ∃ (d : Addr) (fs : List (Str × V)), H2 s = some (exo s C (some d)) ∧ H2 d = some (exd d fs) ∧ H d = none ∧ Q (.ref C) (some d) (upd (del H2 s) d (.xd fs))) (fun _ _ _ => False) := by
  refine ⟨by show 1 ≤ 1000; decide, fun s hs => ⟨s, v, rfl, upd_same, fun d hd ne => ⟨rfl, d, [(a, v)], upd_same, ?_, ?_, ?_⟩⟩⟩
  · rw [upd_ne ne, upd_same]
  · rw [upd_ne ne] at hd; exact hd
  · have hd' : H d = none := by rw [upd_ne ne] at hd; exact hd
    refine h d _ (del_upd (o' := .lst []) hs hd' ne fun b nb nd => ?_) upd_same
    rw [upd_ne nb, upd_ne nd, upd_ne nb]
theorem fly2 {K : PySem.W.Frag} {C : Addr} {a b : Str} {v u : V} {H : Hp} {Q : XK} (h : ∀ d Hf, Same H Hf → Hf d = some (.xd [(b, u), (a, v)]) → Q (.ref C) (some d) Hf) :
    ([v, u] : List V).length ≤ 1000 ∧ ∀ s, H s = none → spI2 K C a b (.ref s :: ([v, u] ++ [])) (upd H s (exo s C none))
      (fun v H2 => v = .non ∧ ∃ (d : Addr) (fs : List (Str × V)), H2 s = some (exo s C (some d)) ∧ H2 d = some (exd d fs) ∧ H d = none ∧ Q (.ref C) (some d) (upd (del H2 s) d (.xd fs))) (fun _ _ _ => False) := by
  refine ⟨by show 2 ≤ 1000; decide, fun s hs => ⟨s, v, u, rfl, upd_same, fun d hd ne => ⟨rfl, d, [(b, u), (a, v)], ?_, upd_same, ?_, ?_⟩⟩⟩
  · rw [upd_ne ne.symm, upd_same]
  · rw [upd_ne ne] at hd; exact hd
  · have hd' : H d = none := by rw [upd_ne ne] at hd; exact hd
    refine h d _ (del_upd (o' := .lst []) hs hd' ne fun b nb nd => ?_) upd_same
    rw [upd_ne nd, upd_ne nb, upd_ne nd, upd_ne nb]
section
variable {P : Program} {w : World} {K : PySem.W.Frag} {mg : Str → Option Value} {base : Heap} {C f : Addr} {fd : FuncData} {qual : Str}
/-- an __init__ that stores its one parameter, its two parameters, under their names -/
theorem init1 {st : Stmt} {a : Str} (F : L2.Fun K "__init__" qual st f fd) (S : FnScope ["self", a] ["self", a] (defScope st)) (T : OexC K C) (na : PySem.W.findIn K (.ref C) a = some none) {p1 p2 p3 p4 : Pos} (hb : defBody st = [.Assign [.Attribute (.Name "self" p1) a p2] (.Name a p3) p4])
    (va : Vis (defScope st) a) (vs : Vis (defScope st) "self") (d1 : (a == ("__debug__" : Str)) = false) (d2 : (a == ("__classdict__" : Str)) = false) : FnOk P w K mg base CX0 1 f fd ["self", a] (spI1 K C a) := by
  refine F.ok S (fun vs H Q E h => ?_) (fun cdv A outer s H vs Q E hr h => ?_)
  · obtain ⟨s, v, rfl, _⟩ := h; rfl
  · obtain ⟨s, v, rfl, hs, q⟩ := h
    rw [hb]
    refine ⟨_, pss_one (ps_ost (pe_var (i := 0) rfl (by assumption)) (pe_var (i := 1) rfl (by assumption) d1 d2)), ?_⟩
    exact ⟨_, rfl, _, rfl, s, C, rfl, T, na, .inl ⟨hs, fun d hd ne => q d hd ne⟩⟩
theorem init2 {st : Stmt} {a b : Str} (F : L2.Fun K "__init__" qual st f fd) (S : FnScope ["self", a, b] ["self", a, b] (defScope st)) (T : OexC K C) (na : PySem.W.findIn K (.ref C) a = some none) (nb : PySem.W.findIn K (.ref C) b = some none) {p1 p2 p3 p4 q1 q2 q3 q4 : Pos}
    (hb : defBody st = [.Assign [.Attribute (.Name "self" p1) a p2] (.Name a p3) p4, .Assign [.Attribute (.Name "self" q1) b q2] (.Name b q3) q4])
    (va : Vis (defScope st) a) (vb : Vis (defScope st) b) (vs : Vis (defScope st) "self") (d1 : (a == ("__debug__" : Str)) = false) (d2 : (a == ("__classdict__" : Str)) = false) (d3 : (b == ("__debug__" : Str)) = false) (d4 : (b == ("__classdict__" : Str)) = false) : FnOk P w K mg base CX0 1 f fd ["self", a, b] (spI2 K C a b) := by
  refine F.ok S (fun vs H Q E h => ?_) (fun cdv A outer s H vs Q E hr h => ?_)
  · obtain ⟨s, v, u, rfl, _⟩ := h; rfl
  · obtain ⟨s, v, u, rfl, hs, q⟩ := h
    rw [hb]
    refine ⟨_, pss_cons (ps_ost (pe_var (i := 0) rfl (by assumption)) (pe_var (i := 1) rfl (by assumption) d1 d2)) (pss_one (ps_ost (pe_var (i := 0) rfl (by assumption)) (pe_var (i := 2) rfl (by assumption) d3 d4))), ?_⟩
    refine ⟨_, rfl, _, rfl, s, C, rfl, T, na, .inl ⟨hs, fun d hd ne => ?_⟩⟩
    exact ⟨_, rfl, _, rfl, s, C, rfl, T, nb, .inr ⟨d, _, upd_same, by rw [upd_ne ne, upd_same], (by show 1 ≤ 900; decide), q d hd ne⟩⟩
end
/-- isinstance(e, c), e the caught error at a, of the class D, its dict at dd -/
theorem call_isX {X : Cx} {a D : Addr} {oe : Obj} {cls : Value} {d : Option Addr} {pn : List (Addr × Obj)} (hz : Zc cls d oe) (hf : ∃ vs, oe.data = .fields vs) {x : Str} (k : ExK X.K X.mg x D) : CallR (X.suite a ((a, oe) :: pn)) (.builtin "isinstance")
    (fun xs H Q => ∃ (c : V) (cv : Value) (b : Bool) (dd : Addr) (fs : List (Str × V)), xs = [.ref a, c] ∧ cls = .ref D ∧ d = some dd ∧ H dd = some (.xd fs) ∧ RelV c cv ∧ (∀ u, RelV c u → u = cv) ∧ PySem.W.kitOne X.K (.ref D) cv = some b ∧ Q (.bl b) H) := by
  intro pins s σ H xs us Q I r h
  obtain ⟨c, cv, b, dd, fs, rfl, rfl, rfl, ea, _, hcv, e, q⟩ := h
  obtain ⟨u1, u2, rfl, r1, r2⟩ := vals2 r
  cases r1
  have ec := hcv _ r2
  subst ec
  obtain ⟨hget, _⟩ := I.pin (a, oe) (List.mem_append.mpr (.inl List.mem_cons_self))
  obtain ⟨vs, hv⟩ := hf
  have hx : ObjOk X.prog X.w H s.heap dd (.xd fs) := I.hok dd _ ea
  obtain ⟨mA, ⟨od, es, ep, ho, hl⟩, hr⟩ := hx
  have J : PySem.W.InstAt s.heap a oe D (some od) := ⟨hget, hz.1, by unfold PySem.W.notCls; rw [hv] <;> rfl, by rw [hz.2]; exact ho⟩
  have hc : (PySem.W.clsIn X.K D).isSome = true := by
    have h := k.hd
    unfold PySem.W.hasDictIn at h
    cases hh : PySem.W.clsIn X.K D with
    | none => rw [hh] at h; cases h
    | some cd => rfl
  exact PySem.W.kia_one (PySem.W.kitx_exc hc k.ga k.gg k.T.exC k.ca k.sp k.tk k.mr) I.kIn J e (fun z => nomatch z) fun tk => ⟨.bl b, H, I.kept (t' := tk) fun _ _ z => z, rfl, q⟩
/-- what isinstance and an except clause ask of own classes -/
theorem kit_self {K : PySem.W.Frag} {C : Addr} : PySem.W.kitOne K (.ref C) (.ref C) = some true := by
  unfold PySem.W.kitOne
  rw [if_pos (by exact beq_self_eq_true (Value.ref C))]
theorem kit_two {K : PySem.W.Frag} {D C : Addr} {b : Bool} (ne : (Value.ref D == Value.ref C) = false) (hd : PySem.W.hasDictIn K C = true) (ht : PySem.W.typeIn K (.ref C) = some (.type "type")) (hs : PySem.W.subIn K (.ref D) (.ref C) = some b) : PySem.W.kitOne K (.ref D) (.ref C) = some b := by
  have hc : (PySem.W.clsIn K C).isSome = true := by
    unfold PySem.W.hasDictIn at hd
    cases hh : PySem.W.clsIn K C with
    | none => rw [hh] at hd; cases hd
    | some cd => rfl
  unfold PySem.W.kitOne PySem.W.kitCls
  rw [ne, if_neg (by decide)]
  show (if ((PySem.W.clsIn K C).isSome && PySem.W.typeIn K (.ref C) == some (.type "type")) = true then PySem.W.subIn K (.ref D) (.ref C) else none) = some b
  rw [hc, ht, hs]; rfl
theorem kit_ve {K : PySem.W.Frag} {D : Addr} (hs : PySem.W.subIn K (.ref D) (.type "ValueError") = some true) : PySem.W.kitOne K (.ref D) (.type "ValueError") = some true := by
  unfold PySem.W.kitOne PySem.W.kitCls
  rw [show (Value.ref D == Value.type "ValueError") = false from rfl, if_neg (by decide)]
  show (if PySem.W.kitMeta "ValueError" = true then PySem.W.subIn K (.ref D) (.type "ValueError") else none) = some true
  rw [if_pos (by decide +kernel), hs]

/-! ### written tables of the module -/
/-- a statement that is never come to -/
def tNever : TS := fun _ _ _ => False
theorem ps_never {X : Cx} {s : Stmt} : PS X s tNever := ⟨fun _ _ _ _ _ _ h => h.elim⟩
theorem sqT_same {K : PySem.W.Frag} {H H' : Hp} {a : Addr} {xs : List V} (e : Same H H') (h : SqT K H a xs) : SqT K H' a xs := by
  rcases h with (h | ⟨o, h⟩) | h
  · exact .inl (.inl (e _ _ h))
  · exact .inl (.inr ⟨o, e _ _ h⟩)
  · exact .inr h
/-- a comprehension over a tuple -/
theorem lc_mapT {K : PySem.W.Frag} {a : Addr} {xs : List V} {j : Nat} {te : TE} {σ : L2.St} {H1 : Hp} {D : Addr} {Qd : Hp → Prop} (f : V → V) (hD : H1 D = none) (hS : SqT K H1 a xs) (hn : xs.length ≤ 100000)
    (hs : ∀ x H Q, x ∈ xs → Same H1 H → (∀ H', Same H H' → Q (f x) H') → te ((σ.set j none).set j (some x)) H Q) (hd : ∀ H, Same H1 H → H D = some (.lst (xs.map f)) → Qd H) :
    ∃ W : Nat → Nat → Hp → Prop, (∃ m, W 0 m (upd H1 D (.lst []))) ∧ ∀ i m H, W i m H →
      ((Itt K a).stop i H ∧ Qd H) ∨ ((Itt K a).go i H ∧ ∃ Nx : Hp → Prop, (∀ H', Nx H' → ∃ m', m' < m ∧ W (i + 1) m' H') ∧ ∀ x H', (Itt K a).yld i H x H' → gName j x (wipe σ [j]) H' fun σ2 H2 => wipe σ2 [j] = wipe σ [j] ∧ tYes σ2 H2 fun b H3 =>
        if b = true then te σ2 H3 fun y H4 => ∃ acc, H4 D = some (.lst acc) ∧ acc.length < sizeLine ∧ Nx (upd H4 D (.lst (acc ++ [y]))) else Nx H3) := by
  refine lc_tup (xs := xs) (fun i H => Same H1 H ∧ H D = some (.lst ((xs.take i).map f))) ⟨Same.new hD, by rw [upd_same]; rfl⟩ (fun i H _ h => sqT_same h.1 hS) (fun i x H hx h => ?_) (fun H h => hd H h.1 (by rw [List.take_length] at h; exact h.2))
  have hi : i < xs.length := (List.getElem?_eq_some_iff.mp hx).1
  refine ⟨?_, ?_⟩
  · show (((σ.set j none).set j (some x)).set j none) = σ.set j none
    rw [List.set_set, List.set_set]
  · simp only [tYes, if_true]
    refine hs x H _ (List.mem_of_getElem? hx) h.1 fun H' s' => ?_
    refine ⟨_, s' _ _ h.2, ?_, fun b o e => ?_, ?_⟩
    · rw [List.length_map, List.length_take]; exact small64' (by omega)
    · have nb : b ≠ D := fun z => by rw [z, hD] at e; cases e
      rw [upd_ne nb]; exact s' _ _ (h.1 _ _ e)
    · rw [upd_same, List.take_add_one, hx, List.map_append]; rfl
theorem for_zipD {K : PySem.W.Frag} {a b : Addr} {xs ys : List V} {g : TG} {tb : TS} {nx : L2.St → Hp → Prop} {rt : VK} {σ : L2.St} {H : Hp} (hl : xs.length = ys.length) (Pv : Nat → L2.St → Hp → Prop) (h0 : Pv 0 σ H) (hq : ∀ i σ H, Pv i σ H → SqT K H a xs ∧ SqT K H b ys)
    (hs : ∀ (i : Nat) (x y : V) (T : Addr) (σ : L2.St) (H : Hp), xs[i]? = some x → ys[i]? = some y → Pv i σ H → H T = none → g (.ref T) σ (upd H T (.tup [x, y])) fun σ2 H2 => tb { nx := Pv (i + 1), rt := rt, bk := nx, ct := Pv (i + 1) } σ2 H2) (hd : ∀ σ H, Pv xs.length σ H → nx σ H) :
    ∃ W : Nat → Nat → L2.St → Hp → Prop, (∃ m, W 0 m σ H) ∧ ∀ i m σ H, W i m σ H → ((RZ.ItzT K a b).stop i H ∧ nx σ H) ∨ ((RZ.ItzT K a b).go i H ∧ ∃ N : L2.St → Hp → Prop, (∀ σ' H', N σ' H' → ∃ m', m' < m ∧ W (i + 1) m' σ' H') ∧
      ∀ x H', (RZ.ItzT K a b).yld i H x H' → g x σ H' fun σ2 H2 => tb { nx := N, rt := rt, bk := nx, ct := N } σ2 H2) := RZ.for_zipT (D := { nx := nx, rt := rt }) hl Pv h0 hq hs hd
/-- a written tuple of texts -/
structure TupS (K : PySem.W.Frag) (a : Addr) (zs : List Str) : Prop where
  ex : ∃ (o : Obj) (its : Array Value) (n : Nat), K.lookup a = some o ∧ o.cls = .type "tuple" ∧ o.data = .seq its n ∧ its.size ≤ sizeLine ∧ Vals (zs.map V.str) its.toList
def chkS : List Str → List Value → Bool
  | [], [] => true
  | z :: zs, .str y _ :: us => decide (z = y) && chkS zs us
  | _, _ => false
theorem vals_strs : ∀ (zs : List Str) (us : List Value), chkS zs us = true → Vals (zs.map V.str) us
  | [], [], _ => .nil
  | z :: zs, u :: us, h => by
    cases u with
    | str y t =>
      have h' : (decide (z = y) && chkS zs us) = true := h
      rw [Bool.and_eq_true] at h'
      have r : RelV (V.str z) (.str y t) := by
        rw [of_decide_eq_true h'.1]
        exact ⟨t, rfl⟩
      exact .cons r (vals_strs zs us h'.2)
    | _ => cases h
  | [], _ :: _, h => nomatch h
  | _ :: _, [], h => nomatch h
theorem TupS.sq {K : PySem.W.Frag} {a : Addr} {zs : List Str} {H : Hp} (t : TupS K a zs) : SqT K H a (zs.map V.str) := .inr t.ex
def Rows (P : Params) : List DictEntry → List (Str × V) → Prop
  | [], [] => True
  | e :: r, (x, v) :: q => (∃ t, e.key = .str x t) ∧ e.hash = PyData.keyHash P x ∧ RelV v e.val ∧ Rows P r q
  | _, _ => False
/-- a written dict with text keys -/
structure DicV (K : PySem.W.Frag) (w : World) (a : Addr) (kvs : List (Str × V)) : Prop where
  ex : ∃ (es : Array DictEntry) (n : Nat), K.lookup a = some ⟨.type "dict", none, .dict es n, #[]⟩ ∧ (a == sysModules) = false ∧ Rows w.params es.toList kvs
def valS (kvs : List (Str × V)) (z : Str) : Option V := (kvs.find? fun p => decide (p.1 = z)).map (·.2)
theorem Rows.lit {P : Params} : ∀ {l : List DictEntry} {q : List (Str × V)}, Rows P l q → PySem.W.KeysLit P l
  | [], _, _ => True.intro
  | e :: r, [], h => nomatch h
  | e :: r, (x, v) :: q, ⟨⟨t, h1⟩, h2, _, h4⟩ => ⟨⟨x, t, h1, h2⟩, h4.lit⟩
theorem Rows.noref {P : Params} : ∀ {l : List DictEntry} {q : List (Str × V)}, Rows P l q → l.any (·.refKey) = false
  | [], _, _ => rfl
  | e :: r, [], h => nomatch h
  | e :: r, (x, v) :: q, ⟨⟨t, h1⟩, _, _, h4⟩ => by
    rw [List.any_cons, h4.noref, Bool.or_false]
    unfold DictEntry.refKey
    rw [h1]
theorem isStrOf_eq (z x : Str) (t : Tok) : Value.isStrOf z (.str x t) = decide (x = z) := by
  by_cases c : x = z
  · rw [decide_eq_true c, c]; simp [Value.isStrOf]
  · rw [decide_eq_false c]; simp [Value.isStrOf, c, Ne.symm c]
theorem Rows.find {P : Params} (z : Str) : ∀ {l : List DictEntry} {q : List (Str × V)}, Rows P l q → (match valS q z with
    | none => l.find? (·.key.isStr z) = none
    | some v => ∃ e, l.find? (·.key.isStr z) = some e ∧ RelV v e.val)
  | [], [], _ => rfl
  | [], _ :: _, h => nomatch h
  | e :: r, [], h => nomatch h
  | e :: r, (x, v) :: q, ⟨⟨t, h1⟩, _, h3, h4⟩ => by
    have ek : e.key.isStr z = decide (x = z) := by
      rw [h1, PySem.W.isStr_of]
      show Value.isStrOf z (.str x t) = _
      exact isStrOf_eq z x t
    have ih := h4.find z
    unfold valS at ih ⊢
    rw [List.find?_cons, List.find?_cons, ek]
    by_cases c : x = z
    · rw [decide_eq_true c]
      exact ⟨e, rfl, h3⟩
    · rw [decide_eq_false c]
      exact ih
theorem DicV.kd {K : PySem.W.Frag} {w : World} {a : Addr} {kvs : List (Str × V)} (d : DicV K w a kvs) : ∃ es n, KDict K w a es n := by
  obtain ⟨es, n, h1, h2, h3⟩ := d.ex
  exact ⟨es, n, h1, h3.lit, h2⟩
theorem DicV.ns {K : PySem.W.Frag} {w : World} {a : Addr} {kvs : List (Str × V)} (d : DicV K w a kvs) (z : Str) : match valS kvs z with
    | none => PySem.W.nsIn K a z = some none
    | some v => ∃ u, PySem.W.nsIn K a z = some (some u) ∧ RelV v u := by
  obtain ⟨es, n, h1, h2, h3⟩ := d.ex
  have h := h3.find z
  unfold PySem.W.nsIn
  rw [h1]
  split
  · rename_i e
    rw [e] at h
    simp only [h, h3.noref]
    rfl
  · rename_i v e
    rw [e] at h
    obtain ⟨en, h5, h6⟩ := h
    simp only [h5]
    exact ⟨_, rfl, h6⟩
section
variable {X : Cx} {d : Addr} {kvs : List (Str × V)}
def rInT (d : Addr) (kvs : List (Str × V)) : R2 := fun x y H Q => ∃ z : Str, x = .str z ∧ y = .ref d ∧ Q (.bl (valS kvs z).isSome) H
theorem op_inT (D : DicV X.K X.w d kvs) : OpR X (compareOp .In) (rInT d kvs) := by
  intro pins s σ H x y v u Q I rx ry h
  obtain ⟨z, rfl, rfl, q⟩ := h
  obtain ⟨es, n, k⟩ := D.kd
  have hn := D.ns z
  cases e : valS kvs z with
  | none =>
    rw [e] at hn q
    exact op_in_kd k pins s σ H _ _ v u Q I rx ry ⟨z, none, rfl, rfl, hn, q⟩
  | some v0 =>
    rw [e] at hn q
    obtain ⟨u0, hn, _⟩ := hn
    exact op_in_kd k pins s σ H _ _ v u Q I rx ry ⟨z, some u0, rfl, rfl, hn, q⟩
def rIxT (d : Addr) (kvs : List (Str × V)) : R2 := fun x y H Q => ∃ (z : Str) (v : V), x = .ref d ∧ y = .str z ∧ valS kvs z = some v ∧ Q v H
theorem ix_T (D : DicV X.K X.w d kvs) : IxR X (rIxT d kvs) := by
  intro value slice pins s σ H x y v u Q I rx ry h hs
  obtain ⟨z, v0, rfl, rfl, e, q⟩ := h
  have hn := D.ns z
  rw [e] at hn
  obtain ⟨u0, hn, hr⟩ := hn
  obtain ⟨es, n, h1, h2, h3⟩ := D.ex
  exact ix_kdict value slice pins s σ H (.ref d) (.str z) v u Q I rx ry ⟨d, z, v0, rfl, rfl, ⟨es, n, u0, h1, h3.lit, hn, hr⟩, q⟩ hs
def tGet2T (d : Addr) (kvs : List (Str × V)) (td ty tx : TE) : TE := fun σ H Q => td σ H fun x H1 => x = .ref d ∧ ty σ H1 fun y H2 => tx σ H2 fun v H3 => ∃ z : Str, y = .str z ∧ Q ((valS kvs z).getD v) H3
theorem pe_get2T {o e f : Expr} {apos cpos : Pos} {td ty tx : TE} (D : DicV X.K X.w d kvs) (ho : PE X o td) (he : PE X e ty) (hf : PE X f tx) (m : M2 X o "get" apos e f cpos) : PE X (.Call (.Attribute o "get" apos) [e, f] [] cpos) (tGet2T d kvs td ty tx) := by
  refine ⟨fun pins s σ H Q I h => ?_⟩
  refine wpAny_Call_method m.base m.few m.line PySem.F.plainAttrs_dict PySem.F.slot_dict_get PySem.F.type_dict_get (thn (ho.run pins s σ H _ I h) fun u s1 ⟨x, H1, I1, rx, ex, q1⟩ => ?_)
  subst ex
  obtain rfl : u = Value.ref d := rx
  obtain ⟨es, n, h1, h2, h3⟩ := D.ex
  have dd : ∀ {pins : List (Addr × Obj)} {σ : L2.St} {H : Hp} {s : Shared}, Inv X pins σ H s → _ := fun I => PySem.W.mapOf_K (prog := X.prog) (w := X.w) I.kIn h1 h3.lit
  refine ⟨(dd I1).typeIs, fun b q => ?_, ?_⟩
  · cases q
    obtain ⟨ob, _, _, hg, hx, _⟩ := id (dd I1)
    exact ⟨ob, hg, hx.2.1⟩
  rw [m.trees]
  refine Calls.callWith_builtin rfl (Calls.evalArgs_plain (Calls.spliced_cons (thn (he.run pins s1 σ H1 _ I1 q1) fun iv s2 ⟨y, H2, I2, ry, q2⟩ =>
    Calls.spliced_cons (thn (hf.run pins s2 σ H2 _ I2 q2) fun fv s3 ⟨v, H3, I3, rv, z, ez, q3⟩ => Calls.spliced_nil ?_))))
  subst ez
  obtain ⟨t, rfl⟩ := ry
  refine call_meetsIn PySem.F.slot_dict_get (dd I3).typeIs PySem.F.entry_dict_get (PySem.F.args_dict_get_3 _ _ _) (meets_dict_get_default (strKind X.prog X.w) d (strKind_is X.prog X.w z t) h2 fv) ⟨_, dd I3, ?_⟩
  have hn := D.ns z
  refine ⟨(valS kvs z).getD v, H3, I3.tok _, ?_, q3⟩
  cases e : valS kvs z with
  | none =>
    rw [e] at hn
    rw [PySem.W.find_K h1 hn]
    exact rv
  | some v0 =>
    rw [e] at hn
    obtain ⟨u0, hn, hr⟩ := hn
    rw [PySem.W.find_K h1 hn]
    exact hr
/-- a call of a local that holds one of several defs; each may let out what X.xe takes -/
def tCallT (i : Nat) (S : Addr → Sp → Prop) (E : XK) (t : TA) : TE := fun σ H Q => ∃ f sp, σ[i]? = some (some (.ref f)) ∧ S f sp ∧ t σ H fun vs H1 => sp vs H1 Q E
theorem pe_callT {S : Addr → Sp → Prop} {C : CXT} {E : XK} {k j : Nat} {i : Nat} {x : Str} {p pos : Pos} {es : List Expr} {t : TA} (A : ∀ f sp, S f sp → ∃ (y : Str), Cal X.prog X.w X.K X.mg X.base C k y sp ∧ X.mg y = some (.ref f)) (hr : Room j X.A) (hk : k ≤ j) (hN : X.N[i]? = some x) (hv : Vis X.env.scope x)
    (hx : Passes C X E) (ha : PA X (e :: es) t)
    (hdb : (x == ("__debug__" : Str)) = false := by decide) (hcd : (x == ("__classdict__" : Str)) = false := by decide)
    (he : starEach (e :: es) X.env = (false, eval e X.env) :: starEach es X.env := by rfl) (hpl : (backTo pos (starEach es X.env)).any (·.1) = false := by rfl) : PE X (.Call (.Name x p) (e :: es) [] pos) (tCallT i S E t) := by
  refine ⟨fun pins s σ H Q I h => ?_⟩
  obtain ⟨f, sp, hs, hS, ht⟩ := h
  obtain ⟨y, c, hy⟩ := A f sp hS
  obtain ⟨f', fd, ps, F, hm, kp, b⟩ := c.ex
  obtain rfl : f' = f := by rw [hm] at hy; cases hy; rfl
  refine (pe_callL (i := i) (f := f') (sp := sp) (dvs := []) (E := E) F (hr.mono hk) hN hv kp b .nil hx ha hdb hcd he hpl).run pins s σ H Q I ⟨hs, ?_⟩
  have e0 : (fun (vs : List V) (H1 : Hp) => sp (vs ++ []) H1 Q E) = fun vs H1 => sp vs H1 Q E := by
    funext vs H1
    rw [List.append_nil]
  rw [e0]
  exact ht
end

/-! ### the text by places -/
def top (i : Nat) : Stmt := PySem.Challenge.pw_wasmhost_k08_operands_refused.main.body.getD i (.Pass ⟨0, 0, 0, 0⟩)
abbrev s_width : Stmt := top 6
abbrev s_unsigned : Stmt := top 7
abbrev s_extend : Stmt := top 8
abbrev s_signed : Stmt := top 9
abbrev s_add : Stmt := top 14
abbrev s_sub : Stmt := top 15
abbrev s_mul : Stmt := top 16
abbrev s_quotient : Stmt := top 17
abbrev s_signed_quotient : Stmt := top 18
abbrev s_remainder : Stmt := top 19
abbrev s_both : Stmt := top 20
abbrev s_either : Stmt := top 21
abbrev s_differing : Stmt := top 22
abbrev s_shift_left : Stmt := top 23
abbrev s_shift_right : Stmt := top 24
abbrev s_rotate : Stmt := top 25
abbrev s_rotate_left : Stmt := top 26
abbrev s_rotate_right : Stmt := top 27
abbrev s_same : Stmt := top 28
abbrev s_other : Stmt := top 29
abbrev s_less : Stmt := top 30
abbrev s_greater : Stmt := top 31
abbrev s_at_most : Stmt := top 32
abbrev s_at_least : Stmt := top 33
abbrev s_is_zero : Stmt := top 34
abbrev s_low_bits : Stmt := top 35
abbrev s_leading_zeros : Stmt := top 36
abbrev s_trailing_zeros : Stmt := top 37
abbrev s_ones : Stmt := top 38
abbrev s_extend_8 : Stmt := top 39
abbrev s_extend_16 : Stmt := top 40
abbrev s_extend_32 : Stmt := top 41
abbrev s_unchanged : Stmt := top 42
abbrev s_signature_of : Stmt := top 45
abbrev s_in_range : Stmt := top 46
abbrev s_forms_of : Stmt := top 47
abbrev s_calculate : Stmt := top 48
abbrev s__law_is_integer : Stmt := top 50
abbrev s__law_cell : Stmt := top 51
abbrev s__law_signed : Stmt := top 52
abbrev s__law_value : Stmt := top 53
abbrev s__law_params : Stmt := top 54
abbrev s__law_names : Stmt := top 55
abbrev s__law_char : Stmt := top 56
abbrev s__law_edited : Stmt := top 57
abbrev s__law_operand : Stmt := top 58
abbrev s__law_fits : Stmt := top 59
abbrev s__law_class : Stmt := top 60
abbrev s_law : Stmt := top 61
theorem sc_width : FnScope ["kind"] ["kind"] (defScope s_width) := ⟨rfl, rfl, rfl, by decide +kernel, rfl, by decide +kernel, by decide +kernel⟩
theorem sc_unsigned : FnScope ["kind", "number"] ["kind", "number"] (defScope s_unsigned) := ⟨rfl, rfl, rfl, by decide +kernel, rfl, by decide +kernel, by decide +kernel⟩
theorem sc_extend : FnScope ["number", "bits", "low"] ["number", "bits"] (defScope s_extend) := ⟨rfl, rfl, rfl, by decide +kernel, rfl, by decide +kernel, by decide +kernel⟩
theorem sc_signed : FnScope ["kind", "number"] ["kind", "number"] (defScope s_signed) := ⟨rfl, rfl, rfl, by decide +kernel, rfl, by decide +kernel, by decide +kernel⟩
theorem sc_add : FnScope ["bits", "a", "b"] ["bits", "a", "b"] (defScope s_add) := ⟨rfl, rfl, rfl, by decide +kernel, rfl, by decide +kernel, by decide +kernel⟩
theorem sc_sub : FnScope ["bits", "a", "b"] ["bits", "a", "b"] (defScope s_sub) := ⟨rfl, rfl, rfl, by decide +kernel, rfl, by decide +kernel, by decide +kernel⟩
theorem sc_mul : FnScope ["bits", "a", "b"] ["bits", "a", "b"] (defScope s_mul) := ⟨rfl, rfl, rfl, by decide +kernel, rfl, by decide +kernel, by decide +kernel⟩
theorem sc_quotient : FnScope ["bits", "a", "b", "found"] ["bits", "a", "b"] (defScope s_quotient) := ⟨rfl, rfl, rfl, by decide +kernel, rfl, by decide +kernel, by decide +kernel⟩
theorem sc_signed_quotient : FnScope ["bits", "a", "b", "found"] ["bits", "a", "b"] (defScope s_signed_quotient) := ⟨rfl, rfl, rfl, by decide +kernel, rfl, by decide +kernel, by decide +kernel⟩
theorem sc_remainder : FnScope ["bits", "a", "b"] ["bits", "a", "b"] (defScope s_remainder) := ⟨rfl, rfl, rfl, by decide +kernel, rfl, by decide +kernel, by decide +kernel⟩
theorem sc_both : FnScope ["bits", "a", "b"] ["bits", "a", "b"] (defScope s_both) := ⟨rfl, rfl, rfl, by decide +kernel, rfl, by decide +kernel, by decide +kernel⟩
theorem sc_either : FnScope ["bits", "a", "b"] ["bits", "a", "b"] (defScope s_either) := ⟨rfl, rfl, rfl, by decide +kernel, rfl, by decide +kernel, by decide +kernel⟩
theorem sc_differing : FnScope ["bits", "a", "b"] ["bits", "a", "b"] (defScope s_differing) := ⟨rfl, rfl, rfl, by decide +kernel, rfl, by decide +kernel, by decide +kernel⟩
theorem sc_shift_left : FnScope ["bits", "a", "b"] ["bits", "a", "b"] (defScope s_shift_left) := ⟨rfl, rfl, rfl, by decide +kernel, rfl, by decide +kernel, by decide +kernel⟩
theorem sc_shift_right : FnScope ["bits", "a", "b"] ["bits", "a", "b"] (defScope s_shift_right) := ⟨rfl, rfl, rfl, by decide +kernel, rfl, by decide +kernel, by decide +kernel⟩
theorem sc_rotate : FnScope ["bits", "a", "by", "word"] ["bits", "a", "by"] (defScope s_rotate) := ⟨rfl, rfl, rfl, by decide +kernel, rfl, by decide +kernel, by decide +kernel⟩
theorem sc_rotate_left : FnScope ["bits", "a", "b"] ["bits", "a", "b"] (defScope s_rotate_left) := ⟨rfl, rfl, rfl, by decide +kernel, rfl, by decide +kernel, by decide +kernel⟩
theorem sc_rotate_right : FnScope ["bits", "a", "b"] ["bits", "a", "b"] (defScope s_rotate_right) := ⟨rfl, rfl, rfl, by decide +kernel, rfl, by decide +kernel, by decide +kernel⟩
theorem sc_same : FnScope ["bits", "a", "b"] ["bits", "a", "b"] (defScope s_same) := ⟨rfl, rfl, rfl, by decide +kernel, rfl, by decide +kernel, by decide +kernel⟩
theorem sc_other : FnScope ["bits", "a", "b"] ["bits", "a", "b"] (defScope s_other) := ⟨rfl, rfl, rfl, by decide +kernel, rfl, by decide +kernel, by decide +kernel⟩
theorem sc_less : FnScope ["bits", "a", "b"] ["bits", "a", "b"] (defScope s_less) := ⟨rfl, rfl, rfl, by decide +kernel, rfl, by decide +kernel, by decide +kernel⟩
theorem sc_greater : FnScope ["bits", "a", "b"] ["bits", "a", "b"] (defScope s_greater) := ⟨rfl, rfl, rfl, by decide +kernel, rfl, by decide +kernel, by decide +kernel⟩
theorem sc_at_most : FnScope ["bits", "a", "b"] ["bits", "a", "b"] (defScope s_at_most) := ⟨rfl, rfl, rfl, by decide +kernel, rfl, by decide +kernel, by decide +kernel⟩
theorem sc_at_least : FnScope ["bits", "a", "b"] ["bits", "a", "b"] (defScope s_at_least) := ⟨rfl, rfl, rfl, by decide +kernel, rfl, by decide +kernel, by decide +kernel⟩
theorem sc_is_zero : FnScope ["bits", "a"] ["bits", "a"] (defScope s_is_zero) := ⟨rfl, rfl, rfl, by decide +kernel, rfl, by decide +kernel, by decide +kernel⟩
theorem sc_low_bits : FnScope ["bits", "a"] ["bits", "a"] (defScope s_low_bits) := ⟨rfl, rfl, rfl, by decide +kernel, rfl, by decide +kernel, by decide +kernel⟩
theorem sc_leading_zeros : FnScope ["bits", "a"] ["bits", "a"] (defScope s_leading_zeros) := ⟨rfl, rfl, rfl, by decide +kernel, rfl, by decide +kernel, by decide +kernel⟩
theorem sc_trailing_zeros : FnScope ["bits", "a"] ["bits", "a"] (defScope s_trailing_zeros) := ⟨rfl, rfl, rfl, by decide +kernel, rfl, by decide +kernel, by decide +kernel⟩
theorem sc_ones : FnScope ["bits", "a", "word", "count"] ["bits", "a"] (defScope s_ones) := ⟨rfl, rfl, rfl, by decide +kernel, rfl, by decide +kernel, by decide +kernel⟩
theorem sc_extend_8 : FnScope ["bits", "a"] ["bits", "a"] (defScope s_extend_8) := ⟨rfl, rfl, rfl, by decide +kernel, rfl, by decide +kernel, by decide +kernel⟩
theorem sc_extend_16 : FnScope ["bits", "a"] ["bits", "a"] (defScope s_extend_16) := ⟨rfl, rfl, rfl, by decide +kernel, rfl, by decide +kernel, by decide +kernel⟩
theorem sc_extend_32 : FnScope ["bits", "a"] ["bits", "a"] (defScope s_extend_32) := ⟨rfl, rfl, rfl, by decide +kernel, rfl, by decide +kernel, by decide +kernel⟩
theorem sc_unchanged : FnScope ["bits", "a"] ["bits", "a"] (defScope s_unchanged) := ⟨rfl, rfl, rfl, by decide +kernel, rfl, by decide +kernel, by decide +kernel⟩
theorem sc_signature_of : FnScope ["name", "kind", "word", "taken", "results"] ["name"] (defScope s_signature_of) := ⟨rfl, rfl, rfl, by decide +kernel, rfl, by decide +kernel, by decide +kernel⟩
theorem sc_in_range : FnScope ["kinds", "operands", "kind", "operand"] ["kinds", "operands"] (defScope s_in_range) := ⟨rfl, rfl, rfl, by decide +kernel, rfl, by decide +kernel, by decide +kernel⟩
theorem sc_forms_of : FnScope ["kind", "word", "operands", "operand"] ["kind", "word", "operands"] (defScope s_forms_of) := ⟨rfl, rfl, rfl, by decide +kernel, rfl, by decide +kernel, by decide +kernel⟩
theorem sc_calculate : FnScope ["name", "operands", "params", "results", "word", "bits", "forms", "action"] ["name", "operands"] (defScope s_calculate) := ⟨rfl, rfl, rfl, by decide +kernel, rfl, by decide +kernel, by decide +kernel⟩
theorem sc__law_is_integer : FnScope ["actual"] ["actual"] (defScope s__law_is_integer) := ⟨rfl, rfl, rfl, by decide +kernel, rfl, by decide +kernel, by decide +kernel⟩
theorem sc__law_cell : FnScope ["script", "k"] ["script", "k"] (defScope s__law_cell) := ⟨rfl, rfl, rfl, by decide +kernel, rfl, by decide +kernel, by decide +kernel⟩
theorem sc__law_signed : FnScope ["number", "bits", "low"] ["number", "bits"] (defScope s__law_signed) := ⟨rfl, rfl, rfl, by decide +kernel, rfl, by decide +kernel, by decide +kernel⟩
theorem sc__law_value : FnScope ["cell", "bits", "edges", "number"] ["cell", "bits"] (defScope s__law_value) := ⟨rfl, rfl, rfl, by decide +kernel, rfl, by decide +kernel, by decide +kernel⟩
theorem sc__law_params : FnScope ["name", "two", "one", "kind", "word"] ["name"] (defScope s__law_params) := ⟨rfl, rfl, rfl, by decide +kernel, rfl, by decide +kernel, by decide +kernel⟩
theorem sc__law_names : FnScope ["words", "names", "word"] [] (defScope s__law_names) := ⟨rfl, rfl, rfl, by decide +kernel, rfl, by decide +kernel, by decide +kernel⟩
theorem sc__law_char : FnScope ["cell", "chars"] ["cell"] (defScope s__law_char) := ⟨rfl, rfl, rfl, by decide +kernel, rfl, by decide +kernel, by decide +kernel⟩
theorem sc__law_edited : FnScope ["name", "cell", "at", "char"] ["name", "cell"] (defScope s__law_edited) := ⟨rfl, rfl, rfl, by decide +kernel, rfl, by decide +kernel, by decide +kernel⟩
theorem sc__law_operand : FnScope ["cell", "kind", "bits"] ["cell", "kind"] (defScope s__law_operand) := ⟨rfl, rfl, rfl, by decide +kernel, rfl, by decide +kernel, by decide +kernel⟩
theorem sc__law_fits : FnScope ["operands", "params", "k"] ["operands", "params"] (defScope s__law_fits) := ⟨rfl, rfl, rfl, by decide +kernel, rfl, by decide +kernel, by decide +kernel⟩
theorem sc__law_class : FnScope ["name", "operands", "told", "e", "kinds"] ["name", "operands"] (defScope s__law_class) := ⟨rfl, rfl, rfl, by decide +kernel, rfl, by decide +kernel, by decide +kernel⟩
theorem sc_law : FnScope ["script", "names", "k", "pick", "name", "params", "kinds", "count", "operands", "due", "j"] ["script"] (defScope s_law) := ⟨rfl, rfl, rfl, by decide +kernel, rfl, by decide +kernel, by decide +kernel⟩
/-- where the own classes stand -/
structure Cs where
  C_HostError : Addr
  C_Trap : Addr
  I_Trap : Addr
  D_Trap : FuncData
  C_UnknownInstruction : Addr
  I_UnknownInstruction : Addr
  D_UnknownInstruction : FuncData
  C_BadValues : Addr
  t_INSTRUCTIONS : Addr
  t_CONVERTED_KINDS : Addr
  t_COMPARISONS : Addr
  t_ONE_OPERAND : Addr
  t_TWO_OPERANDS : Addr
  f_is_zero : Addr
  f_leading_zeros : Addr
  f_trailing_zeros : Addr
  f_ones : Addr
  f_extend_8 : Addr
  f_extend_16 : Addr
  f_extend_32 : Addr
  f_unchanged : Addr
  f_add : Addr
  f_sub : Addr
  f_mul : Addr
  f_signed_quotient : Addr
  f_quotient : Addr
  f_remainder : Addr
  f_both : Addr
  f_either : Addr
  f_differing : Addr
  f_shift_left : Addr
  f_shift_right : Addr
  f_rotate_left : Addr
  f_rotate_right : Addr
  f_same : Addr
  f_other : Addr
  f_less : Addr
  f_greater : Addr
  f_at_most : Addr
  f_at_least : Addr
def v_INSTRUCTIONS : List Str := ("i32.add" : Str) :: ("i32.sub" : Str) :: ("i32.mul" : Str) :: ("i32.div_s" : Str) :: ("i32.div_u" : Str) :: ("i32.rem_s" : Str) :: ("i32.rem_u" : Str) :: ("i64.add" : Str) :: ("i64.sub" : Str) :: ("i64.mul" : Str) :: ("i64.div_s" : Str) :: ("i64.div_u" : Str) :: ("i64.rem_s" : Str) :: ("i64.rem_u" : Str) :: ("i32.and" : Str) :: ("i32.or" : Str) :: ("i32.xor" : Str) :: ("i64.and" : Str) :: ("i64.or" : Str) :: ("i64.xor" : Str) :: ("i32.shl" : Str) :: ("i32.shr_s" : Str) :: ("i32.shr_u" : Str) :: ("i32.rotl" : Str) :: ("i32.rotr" : Str) :: ("i64.shl" : Str) :: ("i64.shr_s" : Str) :: ("i64.shr_u" : Str) :: ("i64.rotl" : Str) :: ("i64.rotr" : Str) :: ("i32.eqz" : Str) :: ("i32.eq" : Str) :: ("i32.ne" : Str) :: ("i32.lt_s" : Str) :: ("i32.lt_u" : Str) :: ("i32.gt_s" : Str) :: ("i32.gt_u" : Str) :: ("i32.le_s" : Str) :: ("i32.le_u" : Str) :: ("i32.ge_s" : Str) :: ("i32.ge_u" : Str) :: ("i64.eqz" : Str) :: ("i64.eq" : Str) :: ("i64.ne" : Str) :: ("i64.lt_s" : Str) :: ("i64.lt_u" : Str) :: ("i64.gt_s" : Str) :: ("i64.gt_u" : Str) :: ("i64.le_s" : Str) :: ("i64.le_u" : Str) :: ("i64.ge_s" : Str) :: ("i64.ge_u" : Str) :: ("i32.clz" : Str) :: ("i32.ctz" : Str) :: ("i32.popcnt" : Str) :: ("i32.extend8_s" : Str) :: ("i32.extend16_s" : Str) :: ("i64.clz" : Str) :: ("i64.ctz" : Str) :: ("i64.popcnt" : Str) :: ("i64.extend8_s" : Str) :: ("i64.extend16_s" : Str) :: ("i64.extend32_s" : Str) :: ("i32.wrap_i64" : Str) :: ("i64.extend_i32_s" : Str) :: ("i64.extend_i32_u" : Str) :: []
def v_CONVERTED_KINDS (cs : Cs) : List (Str × V) := [("i32.wrap_i64", .str "i64"), ("i64.extend_i32_s", .str "i32"), ("i64.extend_i32_u", .str "i32")]
def v_COMPARISONS : List Str := ("eqz" : Str) :: ("eq" : Str) :: ("ne" : Str) :: ("lt_s" : Str) :: ("lt_u" : Str) :: ("gt_s" : Str) :: ("gt_u" : Str) :: ("le_s" : Str) :: ("le_u" : Str) :: ("ge_s" : Str) :: ("ge_u" : Str) :: []
def v_ONE_OPERAND (cs : Cs) : List (Str × V) := [("eqz", .ref cs.f_is_zero), ("clz", .ref cs.f_leading_zeros), ("ctz", .ref cs.f_trailing_zeros), ("popcnt", .ref cs.f_ones), ("extend8_s", .ref cs.f_extend_8), ("extend16_s", .ref cs.f_extend_16), ("extend32_s", .ref cs.f_extend_32), ("wrap_i64", .ref cs.f_unchanged), ("extend_i32_s", .ref cs.f_unchanged), ("extend_i32_u", .ref cs.f_unchanged)]
def v_TWO_OPERANDS (cs : Cs) : List (Str × V) := [("add", .ref cs.f_add), ("sub", .ref cs.f_sub), ("mul", .ref cs.f_mul), ("div_s", .ref cs.f_signed_quotient), ("div_u", .ref cs.f_quotient), ("rem_s", .ref cs.f_remainder), ("rem_u", .ref cs.f_remainder), ("and", .ref cs.f_both), ("or", .ref cs.f_either), ("xor", .ref cs.f_differing), ("shl", .ref cs.f_shift_left), ("shr_s", .ref cs.f_shift_right), ("shr_u", .ref cs.f_shift_right), ("rotl", .ref cs.f_rotate_left), ("rotr", .ref cs.f_rotate_right), ("eq", .ref cs.f_same), ("ne", .ref cs.f_other), ("lt_s", .ref cs.f_less), ("lt_u", .ref cs.f_less), ("gt_s", .ref cs.f_greater), ("gt_u", .ref cs.f_greater), ("le_s", .ref cs.f_at_most), ("le_u", .ref cs.f_at_most), ("ge_s", .ref cs.f_at_least), ("ge_u", .ref cs.f_at_least)]
abbrev i_Trap : Stmt := inClass (top 2) 0
theorem sci_Trap : FnScope ["self", "reason"] ["self", "reason"] (defScope i_Trap) := ⟨rfl, rfl, rfl, by decide +kernel, rfl, by decide +kernel, by decide +kernel⟩
abbrev i_UnknownInstruction : Stmt := inClass (top 3) 0
theorem sci_UnknownInstruction : FnScope ["self", "name"] ["self", "name"] (defScope i_UnknownInstruction) := ⟨rfl, rfl, rfl, by decide +kernel, rfl, by decide +kernel, by decide +kernel⟩
/-- what the top leaves: built-in names that nothing binds, own classes -/
structure Tp (w : World) (K : PySem.W.Frag) (mg : Str → Option Value) (cs : Cs) : Prop where
  m_abs : mg "abs" = none
  m_bool : mg "bool" = none
  m_int : mg "int" = none
  m_isinstance : mg "isinstance" = none
  m_len : mg "len" = none
  m_list : mg "list" = none
  m_max : mg "max" = none
  m_min : mg "min" = none
  m_range : mg "range" = none
  m_str : mg "str" = none
  m_tuple : mg "tuple" = none
  m_zip : mg "zip" = none
  g_HostError : mg "HostError" = some (.ref cs.C_HostError)
  g_Trap : mg "Trap" = some (.ref cs.C_Trap)
  e_Trap : ExK K mg "Trap" cs.C_Trap
  iC_Trap : PySem.W.findIn K (.ref cs.C_Trap) "__init__" = some (some (.ref cs.I_Trap))
  tI_Trap : PySem.W.typeIn K (.ref cs.I_Trap) = some (.type "function")
  F_Trap : L2.Fun K "__init__" "Trap.__init__" i_Trap cs.I_Trap cs.D_Trap
  b_Trap : Binds K cs.D_Trap ["self", "reason"] []
  no_Trap_reason : PySem.W.findIn K (.ref cs.C_Trap) "reason" = some none
  kit_Trap_HostError : PySem.W.kitOne K (.ref cs.C_Trap) (.ref cs.C_HostError) = some true
  exm_Trap_HostError : PySem.W.exmOne K (.ref cs.C_Trap) (.ref cs.C_HostError) = some true
  kit_Trap_Trap : PySem.W.kitOne K (.ref cs.C_Trap) (.ref cs.C_Trap) = some true
  exm_Trap_Trap : PySem.W.exmOne K (.ref cs.C_Trap) (.ref cs.C_Trap) = some true
  kit_Trap_UnknownInstruction : PySem.W.kitOne K (.ref cs.C_Trap) (.ref cs.C_UnknownInstruction) = some false
  exm_Trap_UnknownInstruction : PySem.W.exmOne K (.ref cs.C_Trap) (.ref cs.C_UnknownInstruction) = some false
  kit_Trap_BadValues : PySem.W.kitOne K (.ref cs.C_Trap) (.ref cs.C_BadValues) = some false
  exm_Trap_BadValues : PySem.W.exmOne K (.ref cs.C_Trap) (.ref cs.C_BadValues) = some false
  kit_Trap_VE : PySem.W.kitOne K (.ref cs.C_Trap) (.type "ValueError") = some true
  g_UnknownInstruction : mg "UnknownInstruction" = some (.ref cs.C_UnknownInstruction)
  e_UnknownInstruction : ExK K mg "UnknownInstruction" cs.C_UnknownInstruction
  iC_UnknownInstruction : PySem.W.findIn K (.ref cs.C_UnknownInstruction) "__init__" = some (some (.ref cs.I_UnknownInstruction))
  tI_UnknownInstruction : PySem.W.typeIn K (.ref cs.I_UnknownInstruction) = some (.type "function")
  F_UnknownInstruction : L2.Fun K "__init__" "UnknownInstruction.__init__" i_UnknownInstruction cs.I_UnknownInstruction cs.D_UnknownInstruction
  b_UnknownInstruction : Binds K cs.D_UnknownInstruction ["self", "name"] []
  no_UnknownInstruction_name : PySem.W.findIn K (.ref cs.C_UnknownInstruction) "name" = some none
  kit_UnknownInstruction_HostError : PySem.W.kitOne K (.ref cs.C_UnknownInstruction) (.ref cs.C_HostError) = some true
  exm_UnknownInstruction_HostError : PySem.W.exmOne K (.ref cs.C_UnknownInstruction) (.ref cs.C_HostError) = some true
  kit_UnknownInstruction_Trap : PySem.W.kitOne K (.ref cs.C_UnknownInstruction) (.ref cs.C_Trap) = some false
  exm_UnknownInstruction_Trap : PySem.W.exmOne K (.ref cs.C_UnknownInstruction) (.ref cs.C_Trap) = some false
  kit_UnknownInstruction_UnknownInstruction : PySem.W.kitOne K (.ref cs.C_UnknownInstruction) (.ref cs.C_UnknownInstruction) = some true
  exm_UnknownInstruction_UnknownInstruction : PySem.W.exmOne K (.ref cs.C_UnknownInstruction) (.ref cs.C_UnknownInstruction) = some true
  kit_UnknownInstruction_BadValues : PySem.W.kitOne K (.ref cs.C_UnknownInstruction) (.ref cs.C_BadValues) = some false
  exm_UnknownInstruction_BadValues : PySem.W.exmOne K (.ref cs.C_UnknownInstruction) (.ref cs.C_BadValues) = some false
  kit_UnknownInstruction_VE : PySem.W.kitOne K (.ref cs.C_UnknownInstruction) (.type "ValueError") = some true
  g_BadValues : mg "BadValues" = some (.ref cs.C_BadValues)
  x0_BadValues : PySem.W.excIn K cs.C_BadValues [.type "ValueError", .type "Exception", .type "BaseException", .type "object"] "ValueError.__new__" = true
  k0_BadValues : PySem.W.keepIn K (.ref cs.C_BadValues) = true
  b0_BadValues : PySem.W.subIn K (.ref cs.C_BadValues) (.type "BaseException") = some true
  t0_BadValues : PySem.W.typeIn K (.ref cs.C_BadValues) = some (.type "type")
  E0_BadValues : ExcC K cs.C_BadValues
  kit_BadValues_HostError : PySem.W.kitOne K (.ref cs.C_BadValues) (.ref cs.C_HostError) = some true
  exm_BadValues_HostError : PySem.W.exmOne K (.ref cs.C_BadValues) (.ref cs.C_HostError) = some true
  kit_BadValues_Trap : PySem.W.kitOne K (.ref cs.C_BadValues) (.ref cs.C_Trap) = some false
  exm_BadValues_Trap : PySem.W.exmOne K (.ref cs.C_BadValues) (.ref cs.C_Trap) = some false
  kit_BadValues_UnknownInstruction : PySem.W.kitOne K (.ref cs.C_BadValues) (.ref cs.C_UnknownInstruction) = some false
  exm_BadValues_UnknownInstruction : PySem.W.exmOne K (.ref cs.C_BadValues) (.ref cs.C_UnknownInstruction) = some false
  kit_BadValues_BadValues : PySem.W.kitOne K (.ref cs.C_BadValues) (.ref cs.C_BadValues) = some true
  exm_BadValues_BadValues : PySem.W.exmOne K (.ref cs.C_BadValues) (.ref cs.C_BadValues) = some true
  kit_BadValues_VE : PySem.W.kitOne K (.ref cs.C_BadValues) (.type "ValueError") = some true
  g_INSTRUCTIONS : mg "INSTRUCTIONS" = some (.ref cs.t_INSTRUCTIONS)
  d_INSTRUCTIONS : TupS K cs.t_INSTRUCTIONS v_INSTRUCTIONS
  g_CONVERTED_KINDS : mg "CONVERTED_KINDS" = some (.ref cs.t_CONVERTED_KINDS)
  d_CONVERTED_KINDS : DicV K w cs.t_CONVERTED_KINDS (v_CONVERTED_KINDS cs)
  g_COMPARISONS : mg "COMPARISONS" = some (.ref cs.t_COMPARISONS)
  d_COMPARISONS : TupS K cs.t_COMPARISONS v_COMPARISONS
  g_ONE_OPERAND : mg "ONE_OPERAND" = some (.ref cs.t_ONE_OPERAND)
  d_ONE_OPERAND : DicV K w cs.t_ONE_OPERAND (v_ONE_OPERAND cs)
  g_TWO_OPERANDS : mg "TWO_OPERANDS" = some (.ref cs.t_TWO_OPERANDS)
  d_TWO_OPERANDS : DicV K w cs.t_TWO_OPERANDS (v_TWO_OPERANDS cs)
  h_is_zero : mg "is_zero" = some (.ref cs.f_is_zero)
  h_leading_zeros : mg "leading_zeros" = some (.ref cs.f_leading_zeros)
  h_trailing_zeros : mg "trailing_zeros" = some (.ref cs.f_trailing_zeros)
  h_ones : mg "ones" = some (.ref cs.f_ones)
  h_extend_8 : mg "extend_8" = some (.ref cs.f_extend_8)
  h_extend_16 : mg "extend_16" = some (.ref cs.f_extend_16)
  h_extend_32 : mg "extend_32" = some (.ref cs.f_extend_32)
  h_unchanged : mg "unchanged" = some (.ref cs.f_unchanged)
  h_add : mg "add" = some (.ref cs.f_add)
  h_sub : mg "sub" = some (.ref cs.f_sub)
  h_mul : mg "mul" = some (.ref cs.f_mul)
  h_signed_quotient : mg "signed_quotient" = some (.ref cs.f_signed_quotient)
  h_quotient : mg "quotient" = some (.ref cs.f_quotient)
  h_remainder : mg "remainder" = some (.ref cs.f_remainder)
  h_both : mg "both" = some (.ref cs.f_both)
  h_either : mg "either" = some (.ref cs.f_either)
  h_differing : mg "differing" = some (.ref cs.f_differing)
  h_shift_left : mg "shift_left" = some (.ref cs.f_shift_left)
  h_shift_right : mg "shift_right" = some (.ref cs.f_shift_right)
  h_rotate_left : mg "rotate_left" = some (.ref cs.f_rotate_left)
  h_rotate_right : mg "rotate_right" = some (.ref cs.f_rotate_right)
  h_same : mg "same" = some (.ref cs.f_same)
  h_other : mg "other" = some (.ref cs.f_other)
  h_less : mg "less" = some (.ref cs.f_less)
  h_greater : mg "greater" = some (.ref cs.f_greater)
  h_at_most : mg "at_most" = some (.ref cs.f_at_most)
  h_at_least : mg "at_least" = some (.ref cs.f_at_least)
theorem in_Trap {P : Program} {w : World} {K : PySem.W.Frag} {mg : Str → Option Value} {base : Heap} {cs : Cs} (T : Tp w K mg cs) : FnOk P w K mg base CX0 1 cs.I_Trap cs.D_Trap ["self", "reason"] (spI1 K cs.C_Trap "reason") :=
  init1 T.F_Trap sci_Trap T.e_Trap.T T.no_Trap_reason rfl (.inl rfl) (.inl rfl) (by decide) (by decide)
theorem in_UnknownInstruction {P : Program} {w : World} {K : PySem.W.Frag} {mg : Str → Option Value} {base : Heap} {cs : Cs} (T : Tp w K mg cs) : FnOk P w K mg base CX0 1 cs.I_UnknownInstruction cs.D_UnknownInstruction ["self", "name"] (spI1 K cs.C_UnknownInstruction "name") :=
  init1 T.F_UnknownInstruction sci_UnknownInstruction T.e_UnknownInstruction.T T.no_UnknownInstruction_name rfl (.inl rfl) (.inl rfl) (by decide) (by decide)
/-! ### own errors without fields -/
section
variable {X : Cx} {C : Addr} {bmB : List Value} {B newId initId : String}
/-- X() -/
theorem pmk_own0 {x : Str} {p pos : Pos} (F : ExcBaseFacts B newId initId bmB) (q : PySem.W.excIn X.K C bmB newId = true) (gC : X.mg x = some (.ref C)) (kC : PySem.W.keepIn X.K (.ref C) = true) (r : Raises X (.ref C)) (hg : Gl X x)
    (hdb : (x == ("__debug__" : Str)) = false := by decide) : PMk X (.Call (.Name x p) [] [] pos) (fun _ H Q => Q (.ref C) none H) := by
  intro pins s σ H Q I h
  refine wpAny_Call_Name_kw (ld_glob I hg gC ?_ hdb)
  refine PySem.W.callWith_K0 I.kIn kC ?_
  show wpAny _ _ (call (.ref C) []) _ _ _
  obtain ⟨bm, N, nm, qn, bs, hdct, sn, sub, ab, col, dd, k0, k1, k2, k3, k5, mN, hC, hN, hni, T⟩ := exc_obj I.kIn q
  refine wpAny_call_exc_subT F T hC hN hni (fun h' e hm => ?_) (by show 0 ≤ sizeLine; rw [sizeLine_eq]; omega)
  exact mk_of I hm r h (I.hok.gone hm.new)
end
/-- isinstance(e, c), e the caught error at a, of the class D, without a dict -/
theorem call_isX0 {X : Cx} {a D : Addr} {oe : Obj} {cls : Value} {d : Option Addr} {pn : List (Addr × Obj)} (hz : Zc cls d oe) (hf : ∃ vs, oe.data = .fields vs) (C : ExcC X.K D) : CallR (X.suite a ((a, oe) :: pn)) (.builtin "isinstance")
    (fun xs H Q => ∃ (c : V) (cv : Value) (b : Bool), xs = [.ref a, c] ∧ cls = .ref D ∧ d = none ∧ (∀ u, RelV c u → u = cv) ∧ PySem.W.kitOne X.K (.ref D) cv = some b ∧ Q (.bl b) H) := by
  intro pins s σ H xs us Q I r h
  obtain ⟨c, cv, b, rfl, rfl, rfl, hcv, e, q⟩ := h
  exact call_isE C hz hf pins s σ H _ us Q I r ⟨c, cv, b, rfl, hcv, e, q⟩

section
variable {X : Cx} {s : Shared} {H : Hp} {sc : Scope} {en : Env} {fp : List Addr}
theorem sl_tupB : SlR (X.blk s H sc en fp) (rSlT X.K) := sl_tup
theorem pi_listT {tg iter : Expr} {te : TE} {pn : List (Addr × Obj)} {xe : Value → Shared → Prop} (he : PE (X.tr pn xe) iter te) : PI (X.tr pn xe) tg iter (iList X.K te) := pi_list he
theorem ix_tupTr {pn : List (Addr × Obj)} {xe : Value → Shared → Prop} : IxR (X.tr pn xe) (L2.rIxT X.K) := ix_tup
theorem ix_listTr {pn : List (Addr × Obj)} {xe : Value → Shared → Prop} : IxR (X.tr pn xe) (L2.rIxL X.K) := ix_list
theorem sl_tupBT {pn : List (Addr × Obj)} {xe : Value → Shared → Prop} : SlR ((X.tr pn xe).blk s H sc en fp) (rSlT X.K) := sl_tup
theorem op_catTB : OpR (X.blk s H sc en fp) (binaryOp .Add) (rCatT X.K) := op_catT
theorem op_neDB (hu : X.A.units + 64 < cLine) : OpR (X.blk s H sc en fp) (compareOp .NotEq) (rNeD X.K) := op_neD (X := X.blk s H sc en fp) hu
theorem op_eqDB (hu : X.A.units + 64 < cLine) : OpR (X.blk s H sc en fp) (compareOp .Eq) (rEqD X.K) := op_eqD (X := X.blk s H sc en fp) hu
end

/-! ### lists of ints that are the same -/
theorem dp_all {K : PySem.W.Frag} {H : Hp} : ∀ ns : List Int, DpAll K H (ns.map V.int) (ns.map PyData.int)
  | [] => .nil
  | _ :: r => .cons (.int _) (dp_all r)
theorem canlay_ints : ∀ ns : List Int, PyData.canLayAll0 (ns.map PyData.int) = true
  | [] => rfl
  | _ :: r => by
    show PyData.canLayAll0 (PyData.int _ :: r.map PyData.int) = true
    simp only [PyData.canLayAll0, PyData.canLay0, canlay_ints r, Bool.and_self]
theorem depth_ints : ∀ ns : List Int, PyData.depthAll (ns.map PyData.int) ≤ 63
  | [] => by simp [PyData.depthAll]
  | _ :: r => by
    have h := depth_ints r
    simp [PyData.depthAll, PyData.depth] at h ⊢
    exact h
theorem shaped_ints (ns : List Int) : SeqAt.shaped (.list (ns.map PyData.int)) = true := by
  unfold SeqAt.shaped
  rw [Bool.and_eq_true]
  refine ⟨?_, decide_eq_true ?_⟩
  · simp only [PyData.canLay0, canlay_ints]
  · have h := depth_ints ns
    simp only [PyData.depth] at h ⊢
    omega
theorem eqD_same {K : PySem.W.Frag} {H : Hp} {x y : V} {d : PyData} {Q : VK} (h1 : Dp K H x d) (h2 : Dp K H y d) (s : SeqAt.shaped d = true) (q : Q (.bl true) H) : rEqD K x y H Q :=
  ⟨d, d, h1, h2, s, s, by rw [SeqAt.eqv_refl d (SeqAt.canLay_of_shaped s)]; exact q⟩
theorem neD_same {K : PySem.W.Frag} {H : Hp} {x y : V} {d : PyData} {Q : VK} (h1 : Dp K H x d) (h2 : Dp K H y d) (s : SeqAt.shaped d = true) (q : Q (.bl false) H) : rNeD K x y H Q :=
  ⟨d, d, h1, h2, s, s, by rw [SeqAt.eqv_refl d (SeqAt.canLay_of_shaped s)]; exact q⟩
theorem dp_ints {K : PySem.W.Frag} {H : Hp} {a : Addr} {ns : List Int} (h : SqL K H a (ns.map V.int)) : Dp K H (.ref a) (.list (ns.map PyData.int)) := .lst h (dp_all ns)
theorem eqv_ints (ns : List Int) : PyData.eqv (.list (ns.map PyData.int)) (.list (ns.map PyData.int)) = true := SeqAt.eqv_refl _ (SeqAt.canLay_of_shaped (shaped_ints ns))

/-! ### ifs and tests whose answer is known -/
theorem ifNe {x y : Int} {A B : Prop} (e : x = y) (h : B) : if (!decide (V.int x = V.int y)) = true then A else B := by
  subst e
  rw [decide_eq_true rfl]
  exact h
theorem ifNeN {x y : Int} {A B : Prop} (e : ¬ x = y) (h : A) : if (!decide (V.int x = V.int y)) = true then A else B := by
  rw [decide_eq_false (fun z => e (V.int.inj z))]
  exact h
theorem eqT {x y : Int} (e : x = y) : decide (V.int x = V.int y) = true := decide_eq_true (congrArg V.int e)
theorem qT {x y : Int} {Q : VK} {H : Hp} (e : x = y) (h : Q (.bl true) H) : Q (.bl (decide (V.int x = V.int y))) H := by rw [eqT e]; exact h
theorem orV {t u : TE} {σ : L2.St} {H : Hp} {Q : VK} (b1 b2 : Bool) (h1 : ∀ Q, (∀ H', Same H H' → Q (.bl b1) H') → t σ H Q) (h2 : ∀ H' Q, Q (.bl b2) H' → u σ H' Q) (q : ∀ H', Same H H' → Q (.bl (b1 || b2)) H') : tOrV t u σ H Q := by
  refine h1 _ fun H' s => ⟨b1, rfl, ?_⟩
  cases b1 with
  | true => rw [if_pos rfl]; exact q _ s
  | false => rw [if_neg (by decide)]; exact h2 _ _ (q _ s)
theorem andV {t u : TE} {σ : L2.St} {H : Hp} {Q : VK} (b1 b2 : Bool) (h1 : ∀ Q, Q (.bl b1) H → t σ H Q) (h2 : ∀ Q, Q (.bl b2) H → u σ H Q) (q : Q (.bl (b1 && b2)) H) : tAndV t u σ H Q := by
  refine h1 _ ⟨b1, rfl, ?_⟩
  cases b1 with
  | true => rw [if_pos rfl]; exact h2 _ q
  | false => rw [if_neg (by decide)]; exact q
theorem orF {t u : TT} {σ : L2.St} {H : Hp} {Q : Bool → Hp → Prop} (h1 : ∀ Q, (∀ H', Same H H' → Q false H') → t σ H Q) (h2 : ∀ H', Same H H' → ∀ Q, (∀ H'', Same H' H'' → Q false H'') → u σ H' Q) (q : ∀ H', Same H H' → Q false H') : tOr t u σ H Q := by
  refine h1 _ fun H' s => ?_
  rw [if_neg (by decide)]
  exact h2 _ s _ fun H'' s' => q _ (s.trans s')
theorem neF {x y : Int} {Q : Bool → Hp → Prop} {H : Hp} (e : x = y) (h : Q false H) : Q (!decide (V.int x = V.int y)) H := by rw [eqT e]; exact h
theorem ifEq {x y : Int} {A B : Prop} (e : x = y) (h : A) : if decide (V.int x = V.int y) = true then A else B := by rw [eqT e]; exact h
theorem ifEqN {x y : Int} {A B : Prop} (e : ¬ x = y) (h : B) : if decide (V.int x = V.int y) = true then A else B := by
  rw [decide_eq_false (fun z => e (V.int.inj z))]; exact h
theorem ifS {x y : Str} {A B : Prop} (e : x = y) (h : A) : if decide (V.str x = V.str y) = true then A else B := by rw [if_pos (decide_eq_true (congrArg V.str e))]; exact h
theorem ifSN {x y : Str} {A B : Prop} (e : ¬ x = y) (h : B) : if decide (V.str x = V.str y) = true then A else B := by
  rw [if_neg (fun z => e (V.str.inj (of_decide_eq_true z)))]; exact h
theorem ifNeS {x y : Str} {A B : Prop} (e : x = y) (h : B) : if (!decide (V.str x = V.str y)) = true then A else B := by
  subst e
  rw [decide_eq_true rfl]
  exact h
theorem qTS {x y : Str} {Q : VK} {H : Hp} (e : x = y) (h : Q (.bl true) H) : Q (.bl (decide (V.str x = V.str y))) H := by rw [decide_eq_true (congrArg V.str e)]; exact h
theorem call_isiS {X : Cx} {a : Addr} {ps : List (Addr × Obj)} : CallR (X.suite a ps) (.builtin "isinstance") (rIsi X.K) := call_isi
theorem for_tupE {K : PySem.W.Frag} {a : Addr} {xs : List V} {g : TG} {tb : TS} {nx : L2.St → Hp → Prop} {rt : VK} {σ : L2.St} {H : Hp} (Pv : Nat → L2.St → Hp → Prop) (h0 : Pv 0 σ H) (hl : ∀ i σ H, i ≤ xs.length → Pv i σ H → SqT K H a xs)
    (hs : ∀ i x σ H, xs[i]? = some x → Pv i σ H → g x σ H fun σ2 H2 => tb { nx := Pv (i + 1), rt := rt, bk := nx, ct := Pv (i + 1) } σ2 H2) (hd : ∀ σ H, Pv xs.length σ H → nx σ H) :
    ∃ W : Nat → Nat → L2.St → Hp → Prop, (∃ m, W 0 m σ H) ∧ ∀ i m σ H, W i m σ H → ((Itt K a).stop i H ∧ nx σ H) ∨ ((Itt K a).go i H ∧ ∃ N : L2.St → Hp → Prop, (∀ σ' H', N σ' H' → ∃ m', m' < m ∧ W (i + 1) m' σ' H') ∧
      ∀ x H', (Itt K a).yld i H x H' → g x σ H' fun σ2 H2 => tb { nx := N, rt := rt, bk := nx, ct := N } σ2 H2) := for_tup (D := { nx := nx, rt := rt }) Pv h0 hl hs hd
theorem isi_bool {K : PySem.W.Frag} {H : Hp} {b : Bool} {Q : VK} (q : Q (.bl true) H) : rIsi K [.bl b, .ty "bool"] H Q := ⟨.bl b, .ty "bool", _, _, true, rfl, .ty _, .base (.bl _), kit_ty (by decide +kernel), q⟩
theorem ne_of_nd {x y : Int} (h : (!decide (V.int x = V.int y)) = true) : ¬ x = y := fun e => by
  rw [decide_eq_true (congrArg V.int e)] at h; cases h
theorem eq_of_nd {x y : Int} (h : ¬ (!decide (V.int x = V.int y)) = true) : x = y := by
  by_cases e : x = y
  · exact e
  · exact absurd (by rw [decide_eq_false (fun z => e (V.int.inj z))]; rfl) h
theorem eq_of_d {x y : Int} (h : decide (V.int x = V.int y) = true) : x = y := V.int.inj (of_decide_eq_true h)
theorem ne_of_d {x y : Int} (h : ¬ decide (V.int x = V.int y) = true) : ¬ x = y := fun e => h (decide_eq_true (congrArg V.int e))
theorem sign_of (d : Nat) : -1 ≤ ([1, -1] : List Int).getD d 0 ∧ ([1, -1] : List Int).getD d 0 ≤ 1 := by
  match d with
  | 0 => decide
  | 1 => decide
  | _ + 2 => exact (by decide : (-1 : Int) ≤ 0 ∧ (0 : Int) ≤ 1)
section
variable {X : Cx} {s : Shared} {H : Hp} {sc : Scope} {en : Env} {fp : List Addr}
theorem ix_listB : IxR (X.blk s H sc en fp) (L2.rIxL X.K) := ix_list
theorem ix_tupB : IxR (X.blk s H sc en fp) (L2.rIxT X.K) := ix_tup
theorem call_isiB : CallR (X.blk s H sc en fp) (.builtin "isinstance") (rIsi X.K) := call_isi
end
theorem andIf {t : TE} {σ : L2.St} {H : Hp} {Q : VK} {b1 b2 : Bool} (h : ∀ Q', Q' (.bl b2) H → t σ H Q') (q : Q (.bl (b1 && b2)) H) : if b1 = true then t σ H Q else Q (.bl false) H := by
  cases b1 with
  | true => exact h _ q
  | false => exact q
theorem op_eqDS {X : Cx} {a : Addr} {ps : List (Addr × Obj)} (hu : X.A.units + 64 < cLine) : OpR (X.suite a ps) (compareOp .Eq) (rEqD X.K) := op_eqD (X := X.suite a ps) hu
theorem isi_of {K : PySem.W.Frag} {H : Hp} {x : V} {n : String} {t : Value} {b : Bool} {Q : VK} (h : TyX K H x t) (k : PySem.W.kitOne K t (.type n) = some b) (q : Q (.bl b) H) : rIsi K [x, .ty n] H Q := ⟨x, .ty n, t, _, b, rfl, .ty _, h, k, q⟩

/-! ### lists of texts, heaps that grow -/
theorem newE {H H' : Hp} {p : Addr} {xs : List V} {zs : List Str} (h : H p = none) (e : upd H p (.lst xs) = H') (hx : xs = zs.map V.str) : Same H H' ∧ H' p = some (.lst (zs.map V.str)) := by
  subst e hx
  exact ⟨Same.new h, upd_same⟩
theorem at_strs {zs : List Str} {k : Nat} (h : k < zs.length) : ∃ z ∈ zs, atI (zs.map V.str) (k : Int) = some (.str z) :=
  ⟨zs[k], List.getElem_mem h, atI_nat (by rw [List.getElem?_map, List.getElem?_eq_getElem h]; rfl)⟩
theorem none_of {H H' : Hp} {p : Addr} (s : Same H H') (h : H' p = none) : H p = none := by
  cases e : H p with
  | none => rfl
  | some o => rw [s _ _ e] at h; cases h
theorem catE {H : Hp} {l b : Addr} {zs ys : List Str} {Q : VK} (hl : H l = some (.lst (zs.map V.str))) (hb : H b = some (.lst (ys.map V.str))) (hn : zs.length + ys.length ≤ 1000) (q : ∀ p H', Same H H' → H p = none → H' p = some (.lst ((zs ++ ys).map V.str)) → Q (.ref p) H') : rCat (.ref l) (.ref b) H Q :=
  ⟨l, b, _, _, rfl, rfl, hl, hb, by rw [List.length_map, List.length_map]; exact small64 (by omega), fun p hp => q p _ (Same.new hp) hp (by rw [upd_same, List.map_append])⟩
def LstS (H : Hp) (Q : VK) (zs : List Str) : Prop := ∀ p H', Same H H' → H p = none → H' p = some (.lst (zs.map V.str)) → Q (.ref p) H'
theorem lc_mapS {K : PySem.W.Frag} {a : Addr} {zs : List Str} {j : Nat} {te : TE} {σ : L2.St} {H1 : Hp} {D : Addr} {Qd : Hp → Prop} (f : Str → Str) (hD : H1 D = none) (hS : SqL K H1 a (zs.map V.str)) (hn : zs.length ≤ 100000)
    (hs : ∀ z H Q, z ∈ zs → Same H1 H → (∀ H', Same H H' → Q (.str (f z)) H') → te ((σ.set j none).set j (some (.str z))) H Q) (hd : ∀ H, Same H1 H → H D = some (.lst ((zs.map f).map V.str)) → Qd H) :
    ∃ W : Nat → Nat → Hp → Prop, (∃ m, W 0 m (upd H1 D (.lst []))) ∧ ∀ i m H, W i m H →
      ((Itl K a).stop i H ∧ Qd H) ∨ ((Itl K a).go i H ∧ ∃ Nx : Hp → Prop, (∀ H', Nx H' → ∃ m', m' < m ∧ W (i + 1) m' H') ∧ ∀ x H', (Itl K a).yld i H x H' → gName j x (wipe σ [j]) H' fun σ2 H2 => wipe σ2 [j] = wipe σ [j] ∧ tYes σ2 H2 fun b H3 =>
        if b = true then te σ2 H3 fun y H4 => ∃ acc, H4 D = some (.lst acc) ∧ acc.length < sizeLine ∧ Nx (upd H4 D (.lst (acc ++ [y]))) else Nx H3) := by
  refine lc_map (f := fun v => match v with | .str z => .str (f z) | v => v) hD hS (by rw [List.length_map]; exact hn) (fun x H2 Q2 hx s2 q2 => ?_) (fun H2 s2 hD2 => ?_)
  · obtain ⟨z, hz, rfl⟩ := List.mem_map.mp hx
    exact hs z H2 Q2 hz s2 q2
  · refine hd H2 s2 ?_
    rw [hD2, List.map_map, List.map_map]; rfl
theorem flat_strs : ∀ zs : List Str, (zs.map V.str).all flatV = true
  | [] => rfl
  | _ :: r => flat_strs r
theorem inV_mem (z : Str) (zs : List Str) : inV (.str z) (zs.map V.str) = true ↔ z ∈ zs := by
  unfold inV
  rw [List.any_map, List.any_eq_true]
  constructor
  · rintro ⟨y, hy, e⟩
    have e' : (y == z) = true := e
    rw [← eq_of_beq e']; exact hy
  · intro h
    exact ⟨z, h, (beq_self_eq_true z : (z == z) = true)⟩

/-! ### a comprehension over a range, whose items are drawn -/
theorem lc_anyR {n j : Nat} {te : TE} {σ : L2.St} {H1 : Hp} {D : Addr} {Qd : Hp → Prop} (φ : V → Prop) (hD : H1 D = none) (hn : n ≤ 100000)
    (hs : ∀ i H Q, i < n → Same H1 H → (∀ y H', φ y → Same H H' → Q y H') → te ((σ.set j none).set j (some (.int i))) H Q) (hd : ∀ xs H, xs.length = n → (∀ x ∈ xs, φ x) → Same H1 H → H D = some (.lst xs) → Qd H) :
    ∃ W : Nat → Nat → Hp → Prop, (∃ m, W 0 m (upd H1 D (.lst []))) ∧ ∀ i m H, W i m H →
      ((Itr 0 n).stop i H ∧ Qd H) ∨ ((Itr 0 n).go i H ∧ ∃ Nx : Hp → Prop, (∀ H', Nx H' → ∃ m', m' < m ∧ W (i + 1) m' H') ∧ ∀ x H', (Itr 0 n).yld i H x H' → gName j x (wipe σ [j]) H' fun σ2 H2 => wipe σ2 [j] = wipe σ [j] ∧ tYes σ2 H2 fun b H3 =>
        if b = true then te σ2 H3 fun y H4 => ∃ acc, H4 D = some (.lst acc) ∧ acc.length < sizeLine ∧ Nx (upd H4 D (.lst (acc ++ [y]))) else Nx H3) := by
  refine lc_range (fun i H => Same H1 H ∧ ∃ xs : List V, xs.length = i ∧ (∀ x ∈ xs, φ x) ∧ H D = some (.lst xs)) ⟨Same.new hD, [], rfl, (fun _ z => nomatch z), upd_same⟩ (fun i H hi h => ?_) (fun H h => by obtain ⟨s, xs, hl, hx, hk⟩ := h; exact hd xs H hl hx s hk)
  rw [Int.zero_add]
  obtain ⟨s, xs, hl, hx, hk⟩ := h
  refine ⟨?_, ?_⟩
  · show (((σ.set j none).set j (some (V.int i))).set j none) = σ.set j none
    rw [List.set_set, List.set_set]
  · simp only [tYes, if_true]
    refine hs i H _ hi s fun y H' hy s' => ?_
    refine ⟨_, s' _ _ hk, ?_, fun b o e => ?_, xs ++ [y], ?_, fun x hx' => ?_, upd_same⟩
    · exact small64' (by omega)
    · have nb : b ≠ D := fun z => by rw [z, hD] at e; cases e
      rw [upd_ne nb]; exact s' _ _ (s _ _ e)
    · rw [List.length_append, hl]; rfl
    · rcases List.mem_append.mp hx' with z | z
      · exact hx x z
      · rw [List.mem_singleton] at z; rw [z]; exact hy
theorem ints_of {ψ : Int → Prop} : ∀ {xs : List V}, (∀ x ∈ xs, ∃ n, x = .int n ∧ ψ n) → ∃ ns : List Int, xs = ns.map V.int ∧ ∀ n ∈ ns, ψ n
  | [], _ => ⟨[], rfl, fun _ z => nomatch z⟩
  | x :: r, h => by
    obtain ⟨n, rfl, hn⟩ := h x (List.mem_cons_self ..)
    obtain ⟨ns, rfl, hns⟩ := ints_of fun y hy => h y (List.mem_cons_of_mem _ hy)
    refine ⟨n :: ns, rfl, fun m hm => ?_⟩
    rcases List.mem_cons.mp hm with e | hm
    · rw [e]; exact hn
    · exact hns m hm
theorem strs_of {ψ : Str → Prop} : ∀ {xs : List V}, (∀ x ∈ xs, ∃ z, x = .str z ∧ ψ z) → ∃ zs : List Str, xs = zs.map V.str ∧ ∀ z ∈ zs, ψ z
  | [], _ => ⟨[], rfl, fun _ z => nomatch z⟩
  | x :: r, h => by
    obtain ⟨n, rfl, hn⟩ := h x (List.mem_cons_self ..)
    obtain ⟨ns, rfl, hns⟩ := strs_of fun y hy => h y (List.mem_cons_of_mem _ hy)
    refine ⟨n :: ns, rfl, fun m hm => ?_⟩
    rcases List.mem_cons.mp hm with e | hm
    · rw [e]; exact hn
    · exact hns m hm

/-! ### the bits and bytes of integers -/
def widN (kd : Str) : Nat := if kd = "i32" then 32 else 64
theorem widN_or (kd : Str) : widN kd = 32 ∨ widN kd = 64 := by unfold widN; split <;> simp
/-- the lowest b bits, read with a sign -/
def sgn (n : Int) (b : Nat) : Int := if n % 2 ^ b / 2 ^ (b - 1) = 0 then n % 2 ^ b else n % 2 ^ b - 2 ^ b
def sp_width (K : PySem.W.Frag) (cs : Cs) : Sp := fun vs H Q _ => ∃ kd : Str, vs = [.str kd] ∧ Q (.int (widN kd)) H
def sp_unsigned (K : PySem.W.Frag) (cs : Cs) : Sp := fun vs H Q _ => ∃ (kd : Str) (n : Int), vs = [.str kd, .int n] ∧ Q (.int (n % 2 ^ widN kd)) H
def sp_extend (K : PySem.W.Frag) (cs : Cs) : Sp := fun vs H Q _ => ∃ (n : Int) (b : Nat), vs = [.int n, .int b] ∧ 1 ≤ b ∧ b ≤ 64 ∧ Q (.int (sgn n b)) H
def sp_signed (K : PySem.W.Frag) (cs : Cs) : Sp := fun vs H Q _ => ∃ (kd : Str) (n : Int), vs = [.str kd, .int n] ∧ Q (.int (sgn n (widN kd))) H
section
variable {P : Program} {w : World} {K : PySem.W.Frag} {mg : Str → Option Value} {base : Heap} {cs : Cs}
theorem c_width (D : Def K mg "width" s_width ["kind"]) (T : Tp w K mg cs)  : Cal P w K mg base CX0 1 "width" (sp_width K cs) := by
  refine D.ok sc_width (fun vs H Q E h => ?_) (fun f cdv A outer s H vs Q E hr h => ?_)
  · obtain ⟨kd, rfl, _⟩ := h; rfl
  · obtain ⟨kd, rfl, q⟩ := h
    refine ⟨_, (pss_cons (ps_if (pt_cmpR op_eq (pv 0) pe_str (by first | rfl | exact nomark _)) (pss_one (ps_ret pe_int)) pss_nil)
      (pss_one (ps_ret pe_int))), ?_⟩
    refine ⟨_, rfl, rfl, _, rfl, ite2 (fun c => ?_) (fun c => ?_)⟩
    · have e : kd = "i32" := V.str.inj (of_decide_eq_true c)
      have e2 : (widN kd : Int) = 32 := by unfold widN; rw [if_pos e]; rfl
      rw [e2] at q; exact q
    · have e : ¬ kd = "i32" := fun z => c (decide_eq_true (congrArg V.str z))
      have e2 : (widN kd : Int) = 64 := by unfold widN; rw [if_neg e]; rfl
      rw [e2] at q; exact q
theorem c_unsigned (D : Def K mg "unsigned" s_unsigned ["kind", "number"]) (T : Tp w K mg cs) (c_width : Cal P w K mg base CX0 1 "width" (sp_width K cs)) : Cal P w K mg base CX0 2 "unsigned" (sp_unsigned K cs) := by
  refine D.ok sc_unsigned (fun vs H Q E h => ?_) (fun f cdv A outer s H vs Q E hr h => ?_)
  · obtain ⟨kd, n, rfl, _⟩ := h; rfl
  · obtain ⟨kd, n, rfl, q⟩ := h
    refine ⟨_, (pss_one (ps_ret (pe_op op_and (pv 1) (pe_op op_sub (pe_op op_shl1 pe_int (pe_c c_width hr (by decide) (by rfl) (pa_cons (pv 0) pa_nil))) pe_int)))), ?_⟩
    have hw := widN_or kd
    walk_at "go"
    simp only [Int.toNat_natCast, PySem.W.kbt_mask]; exact q
theorem c_extend (D : Def K mg "extend" s_extend ["number", "bits"]) (T : Tp w K mg cs)  : Cal P w K mg base CX0 1 "extend" (sp_extend K cs) := by
  refine D.ok sc_extend (fun vs H Q E h => ?_) (fun f cdv A outer s H vs Q E hr h => ?_)
  · obtain ⟨n, b, rfl, _⟩ := h; rfl
  · obtain ⟨n, b, rfl, h1, h2, q⟩ := h
    refine ⟨_, (pss_cons (ps_set (i := 2) sc_extend.nd rfl (by first | exact Or.inl rfl | exact Or.inr rfl) (pe_op op_and (pv 0) (pe_op op_sub (pe_op op_shl1 pe_int (pv 1)) pe_int)))
      (pss_cons (ps_if (pt_cmpR op_eq (pe_op op_shr (pv 2) (pe_op op_sub (pv 1) pe_int)) pe_int (by first | rfl | exact nomark _)) (pss_one (ps_ret (pv 2))) pss_nil)
      (pss_one (ps_ret (pe_op op_sub (pv 2) (pe_op op_shl1 pe_int (pv 1))))))), ?_⟩
    have e1 : ((b : Int) - 1).toNat = b - 1 := by omega
    walk_at "go"
    simp only [Int.toNat_natCast, PySem.W.kbt_mask, e1]
    unfold sgn at q
    refine ite2 (fun c => ?_) (fun c => ?_)
    · have e : n % 2 ^ b / 2 ^ (b - 1) = 0 := V.int.inj (of_decide_eq_true c)
      rw [if_pos e] at q
      exact ⟨_, rfl, q⟩
    · have e : ¬ n % 2 ^ b / 2 ^ (b - 1) = 0 := fun z => c (decide_eq_true (congrArg V.int z))
      rw [if_neg e] at q
      walk_at "go"
      exact q
theorem c_signed (D : Def K mg "signed" s_signed ["kind", "number"]) (T : Tp w K mg cs) (c_extend : Cal P w K mg base CX0 1 "extend" (sp_extend K cs)) (c_width : Cal P w K mg base CX0 1 "width" (sp_width K cs)) : Cal P w K mg base CX0 2 "signed" (sp_signed K cs) := by
  refine D.ok sc_signed (fun vs H Q E h => ?_) (fun f cdv A outer s H vs Q E hr h => ?_)
  · obtain ⟨kd, n, rfl, _⟩ := h; rfl
  · obtain ⟨kd, n, rfl, q⟩ := h
    refine ⟨_, (pss_one (ps_ret (pe_c c_extend hr (by decide) (by rfl) (pa_cons (pv 1) (pa_cons (pe_c c_width hr (by decide) (by rfl) (pa_cons (pv 0) pa_nil)) pa_nil))))), ?_⟩
    have hw := widN_or kd
    exact ⟨_, rfl, _, rfl, kd, rfl, n, widN kd, rfl, by omega, by omega, q⟩
end

/-! ### what the numeric actions compute -/
abbrev EZ := Except Str Int
abbrev G2 := Nat → Int → Int → EZ
abbrev G1 := Nat → Int → EZ
def divZ (x y : Int) : EZ := if y = 0 then .error "integer divide by zero" else .ok (if (x < 0 ↔ y < 0) then (x.natAbs : Int) / y.natAbs else -((x.natAbs : Int) / y.natAbs))
def divS (b : Nat) (x y : Int) : EZ := match divZ x y with
  | .error z => .error z
  | .ok q => if q = 2 ^ (b - 1) then .error "integer overflow" else .ok q
def remZ (x y : Int) : EZ := match divZ x y with
  | .error z => .error z
  | .ok q => .ok (x - y * q)
def one (p : Prop) [Decidable p] : EZ := .ok (if p then 1 else 0)
def Ok64 (x : Int) : Prop := -(2 ^ 63) ≤ x ∧ x < 2 ^ 64
def Trp (cs : Cs) (H : Hp) (E : XK) (r : Str) : Prop := ∀ d Hf, Same H Hf → Hf d = some (.xd [("reason", .str r)]) → E (.ref cs.C_Trap) (some d) Hf
theorem Trp.of {cs : Cs} {H H1 : Hp} {E : XK} {r : Str} (h : Trp cs H E r) (s : Same H H1) : Trp cs H1 E r := fun d Hf s2 e => h d Hf (s.trans s2) e
def spB (g : G2) (_ : PySem.W.Frag) (cs : Cs) : Sp := fun vs H Q E => ∃ (b : Nat) (x y : Int), vs = [.int b, .int x, .int y] ∧ (b = 32 ∨ b = 64) ∧ Ok64 x ∧ Ok64 y ∧ (∀ r, g b x y = .ok r → Q (.int r) H) ∧ (∀ z, g b x y = .error z → Trp cs H E z)
def spO (g : G1) (_ : PySem.W.Frag) (cs : Cs) : Sp := fun vs H Q E => ∃ (b : Nat) (x : Int), vs = [.int b, .int x] ∧ (b = 32 ∨ b = 64) ∧ Ok64 x ∧ (∀ r, g b x = .ok r → Q (.int r) H) ∧ (∀ z, g b x = .error z → Trp cs H E z)
abbrev sp_add := spB fun _ x y => .ok (x + y)
abbrev sp_sub := spB fun _ x y => .ok (x - y)
abbrev sp_mul := spB fun _ x y => .ok (x * y)
abbrev sp_quotient := spB fun _ x y => divZ x y
abbrev sp_signed_quotient := spB fun b x y => divS b x y
abbrev sp_remainder := spB fun _ x y => remZ x y
abbrev sp_both := spB fun _ x y => .ok (Builtin.bitAnd x y)
abbrev sp_same := spB fun _ x y => one (x = y)
abbrev sp_other := spB fun _ x y => one (¬ x = y)
abbrev sp_less := spB fun _ x y => one (x < y)
abbrev sp_greater := spB fun _ x y => one (y < x)
abbrev sp_at_most := spB fun _ x y => one (x ≤ y)
abbrev sp_at_least := spB fun _ x y => one (y ≤ x)
abbrev sp_is_zero := spO fun _ x => one (x = 0)
abbrev sp_extend_8 := spO fun _ x => .ok (sgn x 8)
abbrev sp_extend_16 := spO fun _ x => .ok (sgn x 16)
abbrev sp_extend_32 := spO fun _ x => .ok (sgn x 32)
abbrev sp_unchanged := spO fun _ x => .ok x
theorem div_ge (x y : Int) : ∀ q, divZ x y = .ok q → q.natAbs ≤ x.natAbs := by
  intro q h
  unfold divZ at h
  split at h
  · cases h
  · have e : ((x.natAbs : Int) / y.natAbs) = ((x.natAbs / y.natAbs : Nat) : Int) := (Int.natCast_ediv _ _).symm
    have h2 := Nat.div_le_self x.natAbs y.natAbs
    cases h
    rw [e]
    generalize x.natAbs / y.natAbs = z at h2
    split <;> omega
theorem log_lt {n : Nat} (h : n < 2 ^ 200) : n.log2 < 9000 := by
  by_cases z : n = 0
  · subst z; decide
  · have := (Nat.log2_lt z).mpr h
    omega
theorem one_of {p : Prop} [Decidable p] {b : Bool} (h : b = true ↔ p) : (if b = true then (1 : Int) else 0) = if p then 1 else 0 := by
  by_cases c : p
  · rw [if_pos (h.mpr c), if_pos c]
  · rw [if_neg (fun z => c (h.mp z)), if_neg c]
section
variable {P : Program} {w : World} {K : PySem.W.Frag} {mg : Str → Option Value} {base : Heap} {cs : Cs}
theorem c_add (D : Def K mg "add" s_add ["bits", "a", "b"]) (T : Tp w K mg cs)  : Cal P w K mg base (L2.CX P w) 1 "add" (sp_add K cs) := by
  refine D.okX sc_add (fun vs H Q E h => ?_) (fun f cdv A outer s H vs Q E hr h => ?_)
  · obtain ⟨b, x, y, rfl, _⟩ := h; rfl
  · obtain ⟨b, x, y, rfl, hb, hx, hy, q, qe⟩ := h
    refine ⟨_, (pss_one (ps_ret (pe_op op_add (pv 1) (pv 2)))), ?_⟩
    walk_at "go"
    exact q _ rfl
theorem c_sub (D : Def K mg "sub" s_sub ["bits", "a", "b"]) (T : Tp w K mg cs)  : Cal P w K mg base (L2.CX P w) 1 "sub" (sp_sub K cs) := by
  refine D.okX sc_sub (fun vs H Q E h => ?_) (fun f cdv A outer s H vs Q E hr h => ?_)
  · obtain ⟨b, x, y, rfl, _⟩ := h; rfl
  · obtain ⟨b, x, y, rfl, hb, hx, hy, q, qe⟩ := h
    refine ⟨_, (pss_one (ps_ret (pe_op op_sub (pv 1) (pv 2)))), ?_⟩
    walk_at "go"
    exact q _ rfl
theorem c_mul (D : Def K mg "mul" s_mul ["bits", "a", "b"]) (T : Tp w K mg cs)  : Cal P w K mg base (L2.CX P w) 1 "mul" (sp_mul K cs) := by
  refine D.okX sc_mul (fun vs H Q E h => ?_) (fun f cdv A outer s H vs Q E hr h => ?_)
  · obtain ⟨b, x, y, rfl, _⟩ := h; rfl
  · obtain ⟨b, x, y, rfl, hb, hx, hy, q, qe⟩ := h
    refine ⟨_, (pss_one (ps_ret (pe_op op_mul (pv 1) (pv 2)))), ?_⟩
    have hx1 := hx.1
    have hx2 := hx.2
    walk_at "go"
    exact q _ rfl
theorem c_quotient (D : Def K mg "quotient" s_quotient ["bits", "a", "b"]) (T : Tp w K mg cs)  : Cal P w K mg base (L2.CX P w) 3 "quotient" (sp_quotient K cs) := by
  refine D.okX sc_quotient (fun vs H Q E h => ?_) (fun f cdv A outer s H vs Q E hr h => ?_)
  · obtain ⟨b, x, y, rfl, _⟩ := h; rfl
  · obtain ⟨b, x, y, rfl, hb, hx, hy, q, qe⟩ := h
    refine ⟨_, (pss_cons (ps_if (pt_cmpR op_eq (pv 2) pe_int (by first | rfl | exact nomark _)) (pss_one (ps_raise rfl (takes_of rfl rfl rfl rfl) (pmk_oex T.e_Trap.T T.iC_Trap T.tI_Trap (in_Trap T) (hr.mono (by decide)) T.b_Trap .nil pass0 (by rfl) T.e_Trap.g (pa_cons pe_str pa_nil)))) pss_nil)
      (pss_cons (ps_set (i := 3) sc_quotient.nd rfl (by first | exact Or.inl rfl | exact Or.inr rfl) (pe_op op_fdivW (pe_callB call_abs (by rfl) T.m_abs (by decide +kernel) (pa_cons (pv 1) pa_nil)) (pe_callB call_abs (by rfl) T.m_abs (by decide +kernel) (pa_cons (pv 2) pa_nil))))
      (pss_cons (ps_if (pt_cmpR op_eq (pe_cmpR op_lt (pv 1) pe_int (by first | rfl | exact nomark _)) (pe_cmpR op_lt (pv 2) pe_int (by first | rfl | exact nomark _)) (by first | rfl | exact nomark _)) (pss_one (ps_ret (pv 3))) pss_nil)
      (pss_one (ps_ret (pe_un un_neg (pv 3))))))), ?_⟩
    walk_at "go"
    refine ite2 (fun c => ?_) (fun c => ?_)
    · have c' : y = 0 := V.int.inj (of_decide_eq_true c)
      walk_at "go"
      exact (fly1 fun d Hf s1 e1 => qe _ (if_pos c') d Hf s1 e1).2
    · have c' : ¬ y = 0 := fun z => c (decide_eq_true (congrArg V.int z))
      have q' := q _ (if_neg c')
      have ex : (if x < 0 then -x else x) = (x.natAbs : Int) := by split <;> omega
      have ey : (if y < 0 then -y else y) = (y.natAbs : Int) := by split <;> omega
      walk_at "go"
      simp only [ex, ey]
      have l64 : (y.natAbs : Int).natAbs.log2 < 9000 := log_lt (by have := hy.1; have := hy.2; omega)
      refine ⟨⟨by omega, l64⟩, ?_⟩
      walk_at "go"
      refine ite2 (fun c => ?_) (fun c => ?_)
      · have c2 : decide (x < 0) = decide (y < 0) := V.bl.inj (of_decide_eq_true c)
        rw [if_pos (decide_eq_decide.mp c2)] at q'
        exact ⟨_, rfl, q'⟩
      · have c2 : ¬ decide (x < 0) = decide (y < 0) := fun z => c (decide_eq_true (congrArg V.bl z))
        rw [if_neg (fun z => c2 (decide_eq_decide.mpr z))] at q'
        walk_at "go"
        exact q'
theorem c_signed_quotient (D : Def K mg "signed_quotient" s_signed_quotient ["bits", "a", "b"]) (T : Tp w K mg cs) (c_quotient : Cal P w K mg base (L2.CX P w) 3 "quotient" (sp_quotient K cs)) : Cal P w K mg base (L2.CX P w) 4 "signed_quotient" (sp_signed_quotient K cs) := by
  refine D.okX sc_signed_quotient (fun vs H Q E h => ?_) (fun f cdv A outer s H vs Q E hr h => ?_)
  · obtain ⟨b, x, y, rfl, _⟩ := h; rfl
  · obtain ⟨b, x, y, rfl, hb, hx, hy, q, qe⟩ := h
    refine ⟨_, (pss_cons (ps_set (i := 3) sc_signed_quotient.nd rfl (by first | exact Or.inl rfl | exact Or.inr rfl) (pe_cE c_quotient hr (by decide) (passes_call (takes_of rfl rfl rfl rfl) (fun _ _ _ _ h => h)) (by rfl) (pa_cons (pv 0) (pa_cons (pv 1) (pa_cons (pv 2) pa_nil)))))
      (pss_cons (ps_if (pt_cmpR op_eq (pv 3) (pe_op op_shl1 pe_int (pe_op op_sub (pv 0) pe_int)) (by first | rfl | exact nomark _)) (pss_one (ps_raise rfl (takes_of rfl rfl rfl rfl) (pmk_oex T.e_Trap.T T.iC_Trap T.tI_Trap (in_Trap T) (hr.mono (by decide)) T.b_Trap .nil pass0 (by rfl) T.e_Trap.g (pa_cons pe_str pa_nil)))) pss_nil)
      (pss_one (ps_ret (pv 3))))), ?_⟩
    walk_at "go"
    refine ⟨b, x, y, rfl, hb, hx, hy, fun r hr => ?_, fun z hz => qe _ (by show divS b x y = _; unfold divS; rw [show divZ x y = _ from hz])⟩
    have e1 : ((b : Int) - 1).toNat = b - 1 := by omega
    have hd : divS b x y = if r = 2 ^ (b - 1) then .error "integer overflow" else .ok r := by unfold divS; rw [show divZ x y = _ from hr]
    walk_at "go"
    simp only [e1]
    refine ite2 (fun c => ?_) (fun c => ?_)
    · have c' : r = 2 ^ (b - 1) := V.int.inj (of_decide_eq_true c)
      walk_at "go"
      exact (fly1 fun d Hf s1 e1 => qe _ (by show divS b x y = _; rw [hd, if_pos c']) d Hf s1 e1).2
    · have c' : ¬ r = 2 ^ (b - 1) := fun z => c (decide_eq_true (congrArg V.int z))
      walk_at "go"
      exact q _ (by show divS b x y = _; rw [hd, if_neg c'])
theorem c_remainder (D : Def K mg "remainder" s_remainder ["bits", "a", "b"]) (T : Tp w K mg cs) (c_quotient : Cal P w K mg base (L2.CX P w) 3 "quotient" (sp_quotient K cs)) : Cal P w K mg base (L2.CX P w) 4 "remainder" (sp_remainder K cs) := by
  refine D.okX sc_remainder (fun vs H Q E h => ?_) (fun f cdv A outer s H vs Q E hr h => ?_)
  · obtain ⟨b, x, y, rfl, _⟩ := h; rfl
  · obtain ⟨b, x, y, rfl, hb, hx, hy, q, qe⟩ := h
    refine ⟨_, (pss_one (ps_ret (pe_op op_sub (pv 1) (pe_op op_mul (pv 2) (pe_cE c_quotient hr (by decide) (passes_call (takes_of rfl rfl rfl rfl) (fun _ _ _ _ h => h)) (by rfl) (pa_cons (pv 0) (pa_cons (pv 1) (pa_cons (pv 2) pa_nil)))))))), ?_⟩
    walk_at "go"
    refine ⟨b, x, y, rfl, hb, hx, hy, fun r hr => ?_, fun z hz => qe _ (by show remZ x y = _; unfold remZ; rw [show divZ x y = _ from hz])⟩
    have hy1 := hy.1
    have hy2 := hy.2
    walk_at "go"
    exact q _ (by show remZ x y = _; unfold remZ; rw [show divZ x y = _ from hr])
theorem c_both (D : Def K mg "both" s_both ["bits", "a", "b"]) (T : Tp w K mg cs)  : Cal P w K mg base (L2.CX P w) 1 "both" (sp_both K cs) := by
  refine D.okX sc_both (fun vs H Q E h => ?_) (fun f cdv A outer s H vs Q E hr h => ?_)
  · obtain ⟨b, x, y, rfl, _⟩ := h; rfl
  · obtain ⟨b, x, y, rfl, hb, hx, hy, q, qe⟩ := h
    refine ⟨_, (pss_one (ps_ret (pe_op op_and (pv 1) (pv 2)))), ?_⟩
    walk_at "go"
    exact q _ rfl
theorem c_same (D : Def K mg "same" s_same ["bits", "a", "b"]) (T : Tp w K mg cs)  : Cal P w K mg base (L2.CX P w) 1 "same" (sp_same K cs) := by
  refine D.okX sc_same (fun vs H Q E h => ?_) (fun f cdv A outer s H vs Q E hr h => ?_)
  · obtain ⟨b, x, y, rfl, _⟩ := h; rfl
  · obtain ⟨b, x, y, rfl, hb, hx, hy, q, qe⟩ := h
    refine ⟨_, (pss_one (ps_ret (pe_callTy call_int1 (by rfl) T.m_int (by decide +kernel) (pa_cons (pe_cmpR op_eq (pv 1) (pv 2) (by first | rfl | exact nomark _)) pa_nil)))), ?_⟩
    walk_at "go"
    have e : ∀ (b : Bool), (b = true ↔ x = y) → Q (.int (if b = true then 1 else 0)) H := fun b h => by rw [one_of h]; exact q _ rfl
    exact .inr ⟨_, rfl, e _ (by simp)⟩
theorem c_other (D : Def K mg "other" s_other ["bits", "a", "b"]) (T : Tp w K mg cs)  : Cal P w K mg base (L2.CX P w) 1 "other" (sp_other K cs) := by
  refine D.okX sc_other (fun vs H Q E h => ?_) (fun f cdv A outer s H vs Q E hr h => ?_)
  · obtain ⟨b, x, y, rfl, _⟩ := h; rfl
  · obtain ⟨b, x, y, rfl, hb, hx, hy, q, qe⟩ := h
    refine ⟨_, (pss_one (ps_ret (pe_callTy call_int1 (by rfl) T.m_int (by decide +kernel) (pa_cons (pe_cmpR op_ne (pv 1) (pv 2) (by first | rfl | exact nomark _)) pa_nil)))), ?_⟩
    walk_at "go"
    have e : ∀ (b : Bool), (b = true ↔ ¬ x = y) → Q (.int (if b = true then 1 else 0)) H := fun b h => by rw [one_of h]; exact q _ rfl
    exact .inr ⟨_, rfl, e _ (by simp)⟩
theorem c_less (D : Def K mg "less" s_less ["bits", "a", "b"]) (T : Tp w K mg cs)  : Cal P w K mg base (L2.CX P w) 1 "less" (sp_less K cs) := by
  refine D.okX sc_less (fun vs H Q E h => ?_) (fun f cdv A outer s H vs Q E hr h => ?_)
  · obtain ⟨b, x, y, rfl, _⟩ := h; rfl
  · obtain ⟨b, x, y, rfl, hb, hx, hy, q, qe⟩ := h
    refine ⟨_, (pss_one (ps_ret (pe_callTy call_int1 (by rfl) T.m_int (by decide +kernel) (pa_cons (pe_cmpR op_lt (pv 1) (pv 2) (by first | rfl | exact nomark _)) pa_nil)))), ?_⟩
    walk_at "go"
    have e : ∀ (b : Bool), (b = true ↔ x < y) → Q (.int (if b = true then 1 else 0)) H := fun b h => by rw [one_of h]; exact q _ rfl
    exact .inr ⟨_, rfl, e _ (by simp)⟩
theorem c_greater (D : Def K mg "greater" s_greater ["bits", "a", "b"]) (T : Tp w K mg cs)  : Cal P w K mg base (L2.CX P w) 1 "greater" (sp_greater K cs) := by
  refine D.okX sc_greater (fun vs H Q E h => ?_) (fun f cdv A outer s H vs Q E hr h => ?_)
  · obtain ⟨b, x, y, rfl, _⟩ := h; rfl
  · obtain ⟨b, x, y, rfl, hb, hx, hy, q, qe⟩ := h
    refine ⟨_, (pss_one (ps_ret (pe_callTy call_int1 (by rfl) T.m_int (by decide +kernel) (pa_cons (pe_cmpR op_gt (pv 1) (pv 2) (by first | rfl | exact nomark _)) pa_nil)))), ?_⟩
    walk_at "go"
    have e : ∀ (b : Bool), (b = true ↔ y < x) → Q (.int (if b = true then 1 else 0)) H := fun b h => by rw [one_of h]; exact q _ rfl
    exact .inr ⟨_, rfl, e _ (by simp)⟩
theorem c_at_most (D : Def K mg "at_most" s_at_most ["bits", "a", "b"]) (T : Tp w K mg cs)  : Cal P w K mg base (L2.CX P w) 1 "at_most" (sp_at_most K cs) := by
  refine D.okX sc_at_most (fun vs H Q E h => ?_) (fun f cdv A outer s H vs Q E hr h => ?_)
  · obtain ⟨b, x, y, rfl, _⟩ := h; rfl
  · obtain ⟨b, x, y, rfl, hb, hx, hy, q, qe⟩ := h
    refine ⟨_, (pss_one (ps_ret (pe_callTy call_int1 (by rfl) T.m_int (by decide +kernel) (pa_cons (pe_cmpR op_le (pv 1) (pv 2) (by first | rfl | exact nomark _)) pa_nil)))), ?_⟩
    walk_at "go"
    have e : ∀ (b : Bool), (b = true ↔ x ≤ y) → Q (.int (if b = true then 1 else 0)) H := fun b h => by rw [one_of h]; exact q _ rfl
    exact .inr ⟨_, rfl, e _ (by simp)⟩
theorem c_at_least (D : Def K mg "at_least" s_at_least ["bits", "a", "b"]) (T : Tp w K mg cs)  : Cal P w K mg base (L2.CX P w) 1 "at_least" (sp_at_least K cs) := by
  refine D.okX sc_at_least (fun vs H Q E h => ?_) (fun f cdv A outer s H vs Q E hr h => ?_)
  · obtain ⟨b, x, y, rfl, _⟩ := h; rfl
  · obtain ⟨b, x, y, rfl, hb, hx, hy, q, qe⟩ := h
    refine ⟨_, (pss_one (ps_ret (pe_callTy call_int1 (by rfl) T.m_int (by decide +kernel) (pa_cons (pe_cmpR op_ge (pv 1) (pv 2) (by first | rfl | exact nomark _)) pa_nil)))), ?_⟩
    walk_at "go"
    have e : ∀ (b : Bool), (b = true ↔ y ≤ x) → Q (.int (if b = true then 1 else 0)) H := fun b h => by rw [one_of h]; exact q _ rfl
    exact .inr ⟨_, rfl, e _ (by simp)⟩
theorem c_is_zero (D : Def K mg "is_zero" s_is_zero ["bits", "a"]) (T : Tp w K mg cs)  : Cal P w K mg base (L2.CX P w) 1 "is_zero" (sp_is_zero K cs) := by
  refine D.okX sc_is_zero (fun vs H Q E h => ?_) (fun f cdv A outer s H vs Q E hr h => ?_)
  · obtain ⟨b, x, rfl, _⟩ := h; rfl
  · obtain ⟨b, x, rfl, hb, hx, q, qe⟩ := h
    refine ⟨_, (pss_one (ps_ret (pe_callTy call_int1 (by rfl) T.m_int (by decide +kernel) (pa_cons (pe_cmpR op_eq (pv 1) pe_int (by first | rfl | exact nomark _)) pa_nil)))), ?_⟩
    walk_at "go"
    have e : ∀ (b : Bool), (b = true ↔ x = 0) → Q (.int (if b = true then 1 else 0)) H := fun b h => by rw [one_of h]; exact q _ rfl
    exact .inr ⟨_, rfl, e _ (by simp)⟩
theorem c_extend_8 (D : Def K mg "extend_8" s_extend_8 ["bits", "a"]) (T : Tp w K mg cs) (c_extend : Cal P w K mg base CX0 1 "extend" (sp_extend K cs)) : Cal P w K mg base (L2.CX P w) 2 "extend_8" (sp_extend_8 K cs) := by
  refine D.okX sc_extend_8 (fun vs H Q E h => ?_) (fun f cdv A outer s H vs Q E hr h => ?_)
  · obtain ⟨b, x, rfl, _⟩ := h; rfl
  · obtain ⟨b, x, rfl, hb, hx, q, qe⟩ := h
    refine ⟨_, (pss_one (ps_ret (pe_c c_extend hr (by decide) (by rfl) (pa_cons (pv 1) (pa_cons pe_int pa_nil))))), ?_⟩
    walk_at "go"
    exact q _ rfl
theorem c_extend_16 (D : Def K mg "extend_16" s_extend_16 ["bits", "a"]) (T : Tp w K mg cs) (c_extend : Cal P w K mg base CX0 1 "extend" (sp_extend K cs)) : Cal P w K mg base (L2.CX P w) 2 "extend_16" (sp_extend_16 K cs) := by
  refine D.okX sc_extend_16 (fun vs H Q E h => ?_) (fun f cdv A outer s H vs Q E hr h => ?_)
  · obtain ⟨b, x, rfl, _⟩ := h; rfl
  · obtain ⟨b, x, rfl, hb, hx, q, qe⟩ := h
    refine ⟨_, (pss_one (ps_ret (pe_c c_extend hr (by decide) (by rfl) (pa_cons (pv 1) (pa_cons pe_int pa_nil))))), ?_⟩
    walk_at "go"
    exact q _ rfl
theorem c_extend_32 (D : Def K mg "extend_32" s_extend_32 ["bits", "a"]) (T : Tp w K mg cs) (c_extend : Cal P w K mg base CX0 1 "extend" (sp_extend K cs)) : Cal P w K mg base (L2.CX P w) 2 "extend_32" (sp_extend_32 K cs) := by
  refine D.okX sc_extend_32 (fun vs H Q E h => ?_) (fun f cdv A outer s H vs Q E hr h => ?_)
  · obtain ⟨b, x, rfl, _⟩ := h; rfl
  · obtain ⟨b, x, rfl, hb, hx, q, qe⟩ := h
    refine ⟨_, (pss_one (ps_ret (pe_c c_extend hr (by decide) (by rfl) (pa_cons (pv 1) (pa_cons pe_int pa_nil))))), ?_⟩
    walk_at "go"
    exact q _ rfl
theorem c_unchanged (D : Def K mg "unchanged" s_unchanged ["bits", "a"]) (T : Tp w K mg cs)  : Cal P w K mg base (L2.CX P w) 1 "unchanged" (sp_unchanged K cs) := by
  refine D.okX sc_unchanged (fun vs H Q E h => ?_) (fun f cdv A outer s H vs Q E hr h => ?_)
  · obtain ⟨b, x, rfl, _⟩ := h; rfl
  · obtain ⟨b, x, rfl, hb, hx, q, qe⟩ := h
    refine ⟨_, (pss_one (ps_ret (pv 1))), ?_⟩
    walk_at "go"
    exact q _ rfl

/-! ### bits -/
def bt (x : Int) (j : Nat) : Int := x / 2 ^ j % 2
theorem mod2 (x : Int) : x % 2 = 0 ∨ x % 2 = 1 := by omega
theorem bt_rng (x : Int) (j : Nat) : bt x j = 0 ∨ bt x j = 1 := by unfold bt; omega
theorem bt_zero (x : Int) : bt x 0 = x % 2 := by unfold bt; rw [Int.pow_zero, Int.ediv_one]
theorem bt_succ (x : Int) (j : Nat) : bt x (j + 1) = bt (x / 2) j := by
  unfold bt
  rw [Int.pow_succ', Int.ediv_ediv_of_nonneg (by decide)]
theorem bt_div (x : Int) (s j : Nat) : bt (x / 2 ^ s) j = bt x (s + j) := by
  unfold bt
  rw [Int.ediv_ediv_of_nonneg (Int.le_of_lt (PySem.W.kbt_pos s)), ← Int.pow_add]
theorem bt_and : ∀ (j : Nat) (x y : Int), bt (Builtin.bitAnd x y) j = bt x j * bt y j
  | 0, x, y => by
    rw [bt_zero, bt_zero, bt_zero, PySem.W.kbt_halves]
    rcases mod2 x with h | h <;> rcases mod2 y with k | k <;> rw [h, k] <;> simp <;> omega
  | j + 1, x, y => by
    rw [bt_succ, bt_succ, bt_succ, ← bt_and j]
    have h := PySem.W.kbt_halves x y
    have e : Builtin.bitAnd x y / 2 = Builtin.bitAnd (x / 2) (y / 2) := by split at h <;> omega
    rw [e]
theorem bt_not : ∀ (j : Nat) (x : Int), bt (Builtin.bitNot x) j = 1 - bt x j
  | 0, x => by rw [bt_zero, bt_zero]; show (-x - 1) % 2 = _; omega
  | j + 1, x => by
    rw [bt_succ, bt_succ, ← bt_not j]
    have e : Builtin.bitNot x / 2 = Builtin.bitNot (x / 2) := by show (-x - 1) / 2 = -(x / 2) - 1; omega
    rw [e]
theorem bt_or (j : Nat) (x y : Int) : bt (Builtin.bitOr x y) j = 1 - (1 - bt x j) * (1 - bt y j) := by
  show bt (Builtin.bitNot (Builtin.bitAnd (Builtin.bitNot x) (Builtin.bitNot y))) j = _
  rw [bt_not, bt_and, bt_not, bt_not]
theorem bt_xor : ∀ (j : Nat) (x y : Int), bt (Builtin.bitXor x y) j = bt x j + bt y j - 2 * (bt x j * bt y j)
  | 0, x, y => by
    rw [← bt_and, bt_zero, bt_zero, bt_zero, bt_zero, bitXor_and, PySem.W.kbt_halves]
    rcases mod2 x with h | h <;> rcases mod2 y with k | k <;> rw [h, k] <;> simp <;> omega
  | j + 1, x, y => by
    rw [bt_succ, bt_succ, bt_succ, ← bt_xor j]
    have e : Builtin.bitXor x y / 2 = Builtin.bitXor (x / 2) (y / 2) := by
      rw [bitXor_and, bitXor_and, PySem.W.kbt_halves]
      rcases mod2 x with h | h <;> rcases mod2 y with k | k <;> rw [h, k] <;> simp <;> omega
    rw [e]
theorem mod_bt (x : Int) (k : Nat) : x % 2 ^ (k + 1) = x % 2 ^ k + bt x k * 2 ^ k := by
  have p := PySem.W.kbt_pos k
  have r := bt_rng x k
  have m0 : 0 ≤ x % 2 ^ k := Int.emod_nonneg _ (by omega)
  have m1 : x % 2 ^ k < 2 ^ k := Int.emod_lt_of_pos _ p
  have h1 := Int.emod_add_mul_ediv x (2 ^ k)
  have h2 := Int.emod_add_mul_ediv (x / 2 ^ k) 2
  have e : x % 2 ^ k + bt x k * 2 ^ k + 2 ^ (k + 1) * (x / 2 ^ k / 2) = x := by
    have h3 : x / 2 ^ k = bt x k + 2 * (x / 2 ^ k / 2) := h2.symm
    generalize hq : x / 2 ^ k / 2 = q at h3 ⊢
    rw [h3] at h1
    rw [Int.pow_succ, Int.mul_assoc, Int.mul_comm (bt x k) _, Int.add_assoc, ← Int.mul_add]
    exact h1
  refine (PySem.W.kbt_unique (PySem.W.kbt_pos (k + 1)) e ?_ ?_).2
  · rcases r with r | r <;> rw [r] <;> omega
  · rw [Int.pow_succ]
    rcases r with r | r <;> rw [r] <;> omega
theorem mod_ext {u v : Int} : ∀ {b : Nat}, (∀ j, j < b → bt u j = bt v j) → u % 2 ^ b = v % 2 ^ b
  | 0, _ => by rw [Int.pow_zero, Int.emod_one, Int.emod_one]
  | b + 1, h => by rw [mod_bt, mod_bt, mod_ext (fun j hj => h j (by omega)), h b (by omega)]
theorem bt_mod : ∀ {b j : Nat} (x : Int), j < b → bt (x % 2 ^ b) j = bt x j
  | b + 1, 0, x, _ => by
    rw [bt_zero, bt_zero]
    exact Int.emod_emod_of_dvd x ⟨2 ^ b, by rw [Int.pow_succ']⟩
  | b + 1, j + 1, x, h => by
    rw [bt_succ, bt_succ, ← bt_mod (x / 2) (show j < b by omega)]
    have e : x % 2 ^ (b + 1) / 2 = x / 2 % 2 ^ b := by
      have p := PySem.W.kbt_pos b
      have h1 := Int.emod_add_mul_ediv x 2
      have h2 := Int.emod_add_mul_ediv (x / 2) (2 ^ b)
      have e : (x % 2 + 2 * (x / 2 % 2 ^ b)) + 2 ^ (b + 1) * (x / 2 / 2 ^ b) = x := by
        rw [Int.pow_succ', Int.mul_assoc, Int.add_assoc, ← Int.mul_add, h2, h1]
      have m0 : 0 ≤ x / 2 % 2 ^ b := Int.emod_nonneg _ (by omega)
      have m1 : x / 2 % 2 ^ b < 2 ^ b := Int.emod_lt_of_pos _ p
      rw [(PySem.W.kbt_unique (PySem.W.kbt_pos (b + 1)) e (by omega) (by rw [Int.pow_succ']; omega)).2]
      omega
    rw [e]
theorem bt_high {x : Int} {b j : Nat} (h0 : 0 ≤ x) (h1 : x < 2 ^ b) (h : b ≤ j) : bt x j = 0 := by
  have e : x / 2 ^ j = 0 := Int.ediv_eq_zero_of_lt h0 (Int.lt_of_lt_of_le h1 (by
    obtain ⟨d, rfl⟩ : ∃ d, j = b + d := ⟨j - b, by omega⟩
    rw [Int.pow_add]
    have p := PySem.W.kbt_pos b
    have q := PySem.W.kbt_pos d
    have m := Int.mul_le_mul_of_nonneg_left (show (1 : Int) ≤ 2 ^ d by omega) (Int.le_of_lt p)
    rw [Int.mul_one] at m; exact m))
  unfold bt; rw [e]; rfl
theorem bt_mul (x : Int) (s j : Nat) : bt (x * 2 ^ s) j = if j < s then 0 else bt x (j - s) := by
  by_cases c : j < s
  · rw [if_pos c]
    obtain ⟨d, rfl⟩ : ∃ d, s = j + (d + 1) := ⟨s - j - 1, by omega⟩
    unfold bt
    rw [Int.pow_add, Int.mul_comm (2 ^ j) _, ← Int.mul_assoc, Int.mul_ediv_cancel _ (Int.ne_of_gt (PySem.W.kbt_pos j)), Int.pow_succ, ← Int.mul_assoc]
    exact Int.mul_emod_left _ _
  · rw [if_neg c]
    obtain ⟨d, rfl⟩ : ∃ d, j = s + d := ⟨j - s, by omega⟩
    rw [← bt_div, Int.mul_ediv_cancel _ (Int.ne_of_gt (PySem.W.kbt_pos s)), Nat.add_sub_cancel_left]
theorem bt_neg {x : Int} {b j : Nat} (h0 : -(2 ^ b) ≤ x) (h1 : x < 2 ^ b) (h : b ≤ j) : bt x j = bt x b := by
  rcases Int.lt_or_le x 0 with c | c
  · have e : ∀ i, b ≤ i → bt x i = 1 := fun i hi => by
      have := bt_not i x
      have z : bt (Builtin.bitNot x) i = 0 := bt_high (b := b) (by show 0 ≤ -x - 1; omega) (by show -x - 1 < _; omega) hi
      omega
    rw [e j h, e b (Nat.le_refl b)]
  · rw [bt_high c h1 h, bt_high c h1 (Nat.le_refl b)]
def rot (b : Nat) (x : Int) (s : Nat) : Int := Builtin.bitOr (x % 2 ^ b * 2 ^ s) (x % 2 ^ b / 2 ^ (b - s))
theorem bt_rot {b s j : Nat} (x : Int) (hs : s < b) (hj : j < b) : bt (rot b x s) j = bt x ((j + (b - s)) % b) := by
  have p := PySem.W.kbt_pos b
  have m0 : 0 ≤ x % 2 ^ b := Int.emod_nonneg _ (by omega)
  have m1 : x % 2 ^ b < 2 ^ b := Int.emod_lt_of_pos _ p
  unfold rot
  rw [bt_or, bt_mul, bt_div]
  by_cases c : j < s
  · rw [if_pos c, bt_mod x (show b - s + j < b by omega), Nat.mod_eq_of_lt (show j + (b - s) < b by omega), Nat.add_comm (b - s) j]
    omega
  · rw [if_neg c, bt_high m0 m1 (show b ≤ b - s + j by omega), bt_mod x (show j - s < b by omega), show j + (b - s) = (j - s) + b by omega, Nat.add_mod_right, Nat.mod_eq_of_lt (show j - s < b by omega)]
    omega
def pops : Nat → Int → Int
  | 0, _ => 0
  | i + 1, x => pops i x + bt x i
theorem pops_mod (x : Int) (b : Nat) : ∀ i, i ≤ b → pops i (x % 2 ^ b) = pops i x
  | 0, _ => rfl
  | i + 1, h => by
    show pops i (x % 2 ^ b) + bt (x % 2 ^ b) i = pops i x + bt x i
    rw [pops_mod x b i (by omega), bt_mod x (show i < b by omega)]
theorem pops_high {x : Int} {i : Nat} (h : x / 2 ^ i = 0) : ∀ d, pops (i + d) x = pops i x
  | 0 => rfl
  | d + 1 => by
    show pops (i + d) x + bt x (i + d) = pops i x
    rw [pops_high h d, ← bt_div, h]
    have : bt 0 d = 0 := by unfold bt; rw [Int.zero_ediv]; rfl
    omega
abbrev sp_either := spB fun _ x y => .ok (Builtin.bitOr x y)
abbrev sp_differing := spB fun _ x y => .ok (Builtin.bitXor x y)
abbrev sp_shift_left := spB fun b x y => .ok (x * 2 ^ (y % b).toNat)
abbrev sp_shift_right := spB fun b x y => .ok (x / 2 ^ (y % b).toNat)
abbrev sp_rotate_left := spB fun b x y => .ok (rot b x (y % b).toNat)
abbrev sp_rotate_right := spB fun b x y => .ok (rot b x (-y % b).toNat)
abbrev sp_leading_zeros := spO fun b x => .ok (b - Builtin.Int.intBits (x % 2 ^ b))
abbrev sp_trailing_zeros := spO fun b x => .ok (if x = 0 then b else (Builtin.Int.intBits (Builtin.bitAnd x (-x)) : Int) - 1)
abbrev sp_ones := spO fun b x => .ok (pops b x)
def sp_low_bits (K : PySem.W.Frag) (cs : Cs) : Sp := fun vs H Q _ => ∃ (b : Nat) (x : Int), vs = [.int b, .int x] ∧ b ≤ 64 ∧ Q (.int (x % 2 ^ b)) H
def sp_rotate (K : PySem.W.Frag) (cs : Cs) : Sp := fun vs H Q _ => ∃ (b : Nat) (x : Int) (s : Nat), vs = [.int b, .int x, .int s] ∧ (b = 32 ∨ b = 64) ∧ s < b ∧ Q (.int (rot b x s)) H
theorem mask_of {b : Nat} (h : b = 32 ∨ b = 64) : ∃ k : Nat, (b : Int) - 1 = 2 ^ k - 1 ∧ (2 : Int) ^ k = b := by
  rcases h with rfl | rfl
  · exact ⟨5, by decide, by decide⟩
  · exact ⟨6, by decide, by decide⟩
theorem cnt_of {b : Nat} (h : b = 32 ∨ b = 64) (y : Int) : y % b = ((y % b).toNat : Int) ∧ (y % b).toNat < b := by rcases h with rfl | rfl <;> omega
theorem c_either (D : Def K mg "either" s_either ["bits", "a", "b"]) (T : Tp w K mg cs)  : Cal P w K mg base (L2.CX P w) 1 "either" (sp_either K cs) := by
  refine D.okX sc_either (fun vs H Q E h => ?_) (fun f cdv A outer s H vs Q E hr h => ?_)
  · obtain ⟨b, x, y, rfl, _⟩ := h; rfl
  · obtain ⟨b, x, y, rfl, hb, hx, hy, q, qe⟩ := h
    refine ⟨_, (pss_one (ps_ret (pe_op op_or (pv 1) (pv 2)))), ?_⟩
    walk_at "go"
    exact q _ rfl
theorem c_differing (D : Def K mg "differing" s_differing ["bits", "a", "b"]) (T : Tp w K mg cs)  : Cal P w K mg base (L2.CX P w) 1 "differing" (sp_differing K cs) := by
  refine D.okX sc_differing (fun vs H Q E h => ?_) (fun f cdv A outer s H vs Q E hr h => ?_)
  · obtain ⟨b, x, y, rfl, _⟩ := h; rfl
  · obtain ⟨b, x, y, rfl, hb, hx, hy, q, qe⟩ := h
    refine ⟨_, (pss_one (ps_ret (pe_op op_xor (pv 1) (pv 2)))), ?_⟩
    walk_at "go"
    exact q _ rfl
theorem c_shift_left (D : Def K mg "shift_left" s_shift_left ["bits", "a", "b"]) (T : Tp w K mg cs)  : Cal P w K mg base (L2.CX P w) 1 "shift_left" (sp_shift_left K cs) := by
  refine D.okX sc_shift_left (fun vs H Q E h => ?_) (fun f cdv A outer s H vs Q E hr h => ?_)
  · obtain ⟨b, x, y, rfl, _⟩ := h; rfl
  · obtain ⟨b, x, y, rfl, hb, hx, hy, q, qe⟩ := h
    refine ⟨_, (pss_one (ps_ret (pe_op op_shlS (pv 1) (pe_op op_andM (pv 2) (pe_op op_sub (pv 0) pe_int))))), ?_⟩
    obtain ⟨k, hk, hk2⟩ := mask_of hb
    obtain ⟨e, hlt⟩ := cnt_of hb y
    have q := q _ rfl
    clear qe
    have hx1 := hx.1
    have hx2 := hx.2
    walk_at "go"
    refine ⟨y, k, rfl, congrArg V.int hk, ?_⟩
    rw [hk2]
    generalize (y % (b : Int)).toNat = t at e hlt q
    rw [e]
    exact ⟨x, t, rfl, rfl, ⟨nat_small (by omega), by omega, by omega⟩, q⟩
theorem c_shift_right (D : Def K mg "shift_right" s_shift_right ["bits", "a", "b"]) (T : Tp w K mg cs)  : Cal P w K mg base (L2.CX P w) 1 "shift_right" (sp_shift_right K cs) := by
  refine D.okX sc_shift_right (fun vs H Q E h => ?_) (fun f cdv A outer s H vs Q E hr h => ?_)
  · obtain ⟨b, x, y, rfl, _⟩ := h; rfl
  · obtain ⟨b, x, y, rfl, hb, hx, hy, q, qe⟩ := h
    refine ⟨_, (pss_one (ps_ret (pe_op op_shr (pv 1) (pe_op op_andM (pv 2) (pe_op op_sub (pv 0) pe_int))))), ?_⟩
    obtain ⟨k, hk, hk2⟩ := mask_of hb
    obtain ⟨e, hlt⟩ := cnt_of hb y
    have q := q _ rfl
    clear qe
    walk_at "go"
    refine ⟨y, k, rfl, congrArg V.int hk, ?_⟩
    rw [hk2]
    generalize (y % (b : Int)).toNat = t at e hlt q
    rw [e]
    exact ⟨x, t, rfl, rfl, by omega, q⟩
theorem c_low_bits (D : Def K mg "low_bits" s_low_bits ["bits", "a"]) (T : Tp w K mg cs)  : Cal P w K mg base CX0 1 "low_bits" (sp_low_bits K cs) := by
  refine D.ok sc_low_bits (fun vs H Q E h => ?_) (fun f cdv A outer s H vs Q E hr h => ?_)
  · obtain ⟨b, x, rfl, _⟩ := h; rfl
  · obtain ⟨b, x, rfl, hb, q⟩ := h
    refine ⟨_, (pss_one (ps_ret (pe_op op_andM (pv 1) (pe_op op_sub (pe_op op_shl1 pe_int (pv 0)) pe_int)))), ?_⟩
    walk_at "go"
    exact q
theorem c_rotate (D : Def K mg "rotate" s_rotate ["bits", "a", "by"]) (T : Tp w K mg cs) (c_low_bits : Cal P w K mg base CX0 1 "low_bits" (sp_low_bits K cs)) : Cal P w K mg base CX0 2 "rotate" (sp_rotate K cs) := by
  refine D.ok sc_rotate (fun vs H Q E h => ?_) (fun f cdv A outer s H vs Q E hr h => ?_)
  · obtain ⟨b, x, s, rfl, _⟩ := h; rfl
  · obtain ⟨b, x, s, rfl, hb, hs, q⟩ := h
    refine ⟨_, (pss_cons (ps_set (i := 3) sc_rotate.nd rfl (by first | exact Or.inl rfl | exact Or.inr rfl) (pe_c c_low_bits hr (by decide) (by rfl) (pa_cons (pv 0) (pa_cons (pv 1) pa_nil))))
      (pss_one (ps_ret (pe_op op_or (pe_op op_shlS (pv 3) (pv 2)) (pe_op op_shr (pv 3) (pe_op op_sub (pv 0) (pv 2))))))), ?_⟩
    have hb64 : b ≤ 64 := by omega
    walk_at "go"
    have e : ((b : Int) - (s : Int)).toNat = b - s := by omega
    have m : Ok64 (x % 2 ^ b) := by unfold Ok64; rcases hb with rfl | rfl <;> omega
    refine ⟨⟨nat_small (by have := m.1; have := m.2; omega), by omega, by omega⟩, ?_⟩
    walk_at "go"
    rw [e]
    exact q
theorem c_rotate_left (D : Def K mg "rotate_left" s_rotate_left ["bits", "a", "b"]) (T : Tp w K mg cs) (c_rotate : Cal P w K mg base CX0 2 "rotate" (sp_rotate K cs)) : Cal P w K mg base (L2.CX P w) 3 "rotate_left" (sp_rotate_left K cs) := by
  refine D.okX sc_rotate_left (fun vs H Q E h => ?_) (fun f cdv A outer s H vs Q E hr h => ?_)
  · obtain ⟨b, x, y, rfl, _⟩ := h; rfl
  · obtain ⟨b, x, y, rfl, hb, hx, hy, q, qe⟩ := h
    refine ⟨_, (pss_one (ps_ret (pe_c c_rotate hr (by decide) (by rfl) (pa_cons (pv 0) (pa_cons (pv 1) (pa_cons (pe_op op_andM (pv 2) (pe_op op_sub (pv 0) pe_int)) pa_nil)))))), ?_⟩
    obtain ⟨k, hk, hk2⟩ := mask_of hb
    obtain ⟨e, hlt⟩ := cnt_of hb y
    have q := q _ rfl
    clear qe
    walk_at "go"
    refine ⟨y, k, rfl, congrArg V.int hk, ?_⟩
    rw [hk2]
    generalize (y % (b : Int)).toNat = t at e hlt q
    rw [e]
    exact ⟨b, x, t, rfl, hb, hlt, q⟩
theorem c_rotate_right (D : Def K mg "rotate_right" s_rotate_right ["bits", "a", "b"]) (T : Tp w K mg cs) (c_rotate : Cal P w K mg base CX0 2 "rotate" (sp_rotate K cs)) : Cal P w K mg base (L2.CX P w) 3 "rotate_right" (sp_rotate_right K cs) := by
  refine D.okX sc_rotate_right (fun vs H Q E h => ?_) (fun f cdv A outer s H vs Q E hr h => ?_)
  · obtain ⟨b, x, y, rfl, _⟩ := h; rfl
  · obtain ⟨b, x, y, rfl, hb, hx, hy, q, qe⟩ := h
    refine ⟨_, (pss_one (ps_ret (pe_c c_rotate hr (by decide) (by rfl) (pa_cons (pv 0) (pa_cons (pv 1) (pa_cons (pe_op op_andM (pe_un un_neg (pv 2)) (pe_op op_sub (pv 0) pe_int)) pa_nil)))))), ?_⟩
    obtain ⟨k, hk, hk2⟩ := mask_of hb
    obtain ⟨e, hlt⟩ := cnt_of hb (-y)
    have q := q _ rfl
    clear qe
    walk_at "go"
    refine ⟨-y, k, rfl, congrArg V.int hk, ?_⟩
    rw [hk2]
    generalize (-y % (b : Int)).toNat = t at e hlt q
    rw [e]
    exact ⟨b, x, t, rfl, hb, hlt, q⟩
theorem c_leading_zeros (D : Def K mg "leading_zeros" s_leading_zeros ["bits", "a"]) (T : Tp w K mg cs) (c_low_bits : Cal P w K mg base CX0 1 "low_bits" (sp_low_bits K cs)) : Cal P w K mg base (L2.CX P w) 2 "leading_zeros" (sp_leading_zeros K cs) := by
  refine D.okX sc_leading_zeros (fun vs H Q E h => ?_) (fun f cdv A outer s H vs Q E hr h => ?_)
  · obtain ⟨b, x, rfl, _⟩ := h; rfl
  · obtain ⟨b, x, rfl, hb, hx, q, qe⟩ := h
    refine ⟨_, (pss_one (ps_ret (pe_op op_sub (pv 0) (pe_bits (pe_c c_low_bits hr (by decide) (by rfl) (pa_cons (pv 0) (pa_cons (pv 1) pa_nil))))))), ?_⟩
    walk_at "go"
    exact q _ rfl
theorem c_trailing_zeros (D : Def K mg "trailing_zeros" s_trailing_zeros ["bits", "a"]) (T : Tp w K mg cs)  : Cal P w K mg base (L2.CX P w) 1 "trailing_zeros" (sp_trailing_zeros K cs) := by
  refine D.okX sc_trailing_zeros (fun vs H Q E h => ?_) (fun f cdv A outer s H vs Q E hr h => ?_)
  · obtain ⟨b, x, rfl, _⟩ := h; rfl
  · obtain ⟨b, x, rfl, hb, hx, q, qe⟩ := h
    refine ⟨_, (pss_cons (ps_if (pt_cmpR op_eq (pv 1) pe_int (by first | rfl | exact nomark _)) (pss_one (ps_ret (pv 0))) pss_nil)
      (pss_one (ps_ret (pe_op op_sub (pe_bits (pe_op op_and (pv 1) (pe_un un_neg (pv 1)))) pe_int)))), ?_⟩
    walk_at "go"
    refine ite2 (fun c => ?_) (fun c => ?_)
    · have c' : x = 0 := V.int.inj (of_decide_eq_true c)
      walk_at "go"
      exact q _ (congrArg Except.ok (if_pos c'))
    · have c' : ¬ x = 0 := fun z => c (decide_eq_true (congrArg V.int z))
      walk_at "go"
      exact q _ (congrArg Except.ok (if_neg c'))
theorem c_ones (D : Def K mg "ones" s_ones ["bits", "a"]) (T : Tp w K mg cs) (c_low_bits : Cal P w K mg base CX0 1 "low_bits" (sp_low_bits K cs)) : Cal P w K mg base (L2.CX P w) 2 "ones" (sp_ones K cs) := by
  refine D.okX sc_ones (fun vs H Q E h => ?_) (fun f cdv A outer s H vs Q E hr h => ?_)
  · obtain ⟨b, x, rfl, _⟩ := h; rfl
  · obtain ⟨b, x, rfl, hb, hx, q, qe⟩ := h
    refine ⟨_, (pss_cons (ps_set (i := 2) sc_ones.nd rfl (by first | exact Or.inl rfl | exact Or.inr rfl) (pe_c c_low_bits hr (by decide) (by rfl) (pa_cons (pv 0) (pa_cons (pv 1) pa_nil))))
      (pss_cons (ps_set (i := 3) sc_ones.nd rfl (by first | exact Or.inl rfl | exact Or.inr rfl) pe_int)
      (pss_cons (ps_while (passes_of rfl) (pt_cmpR op_gt (pv 2) pe_int (by first | rfl | exact nomark _)) (pss_cons (ps_set (i := 3) sc_ones.nd rfl (by first | exact Or.inl rfl | exact Or.inr rfl) (pe_op op_add (pv 3) (pe_op op_and (pv 2) pe_int)))
      (pss_one (ps_set (i := 2) sc_ones.nd rfl (by first | exact Or.inl rfl | exact Or.inr rfl) (pe_op op_shr (pv 2) pe_int)))))
      (pss_one (ps_ret (pv 3)))))), ?_⟩
    have q := q _ rfl
    have hb64 : b ≤ 64 := by omega
    rw [← pops_mod x b b (Nat.le_refl b)] at q
    have pb := pow_pos2 b
    have m0 : 0 ≤ x % 2 ^ b := Int.emod_nonneg _ (by omega)
    have m1 : x % 2 ^ b < 2 ^ b := Int.emod_lt_of_pos _ pb
    walk_at "go"
    change Q (.int (pops b (x % 2 ^ b))) H at q
    generalize x % 2 ^ b = w0 at q m0 m1 ⊢
    walk_at "go"
    refine while_ev (fun σ H2 => H = H2 ∧ ∃ i : Nat, i ≤ b ∧ σ = [some (.int b), some (.int x), some (.int (w0 / 2 ^ i)), some (.int (pops i w0))]) (fun σ _ => match σ with | [_, _, some (.int m), _] => m.toNat | _ => 0) ⟨rfl, 0, Nat.zero_le _, by rw [Int.pow_zero, Int.ediv_one]; rfl⟩ ?_
    rintro _ _ ⟨rfl, i, hi, rfl⟩
    have hw : 0 ≤ w0 / 2 ^ i := Int.ediv_nonneg m0 (Int.le_of_lt (pow_pos2 i))
    refine ⟨decide (0 < w0 / 2 ^ i), fun Q2 q2 => by walk_at "go"; exact q2, fun c => ?_, fun c => ?_⟩
    · have c' : 0 < w0 / 2 ^ i := of_decide_eq_true c
      have hib : i < b := by
        rcases Nat.lt_or_ge i b with h | h
        · exact h
        · have : i = b := by omega
          rw [this, Int.ediv_eq_zero_of_lt m0 m1] at c'
          omega
      walk_at "go"
      rw [bitAnd_m1]
      have e2 : w0 / 2 ^ i / 2 = w0 / 2 ^ (i + 1) := by rw [Int.pow_succ, Int.ediv_ediv_of_nonneg (Int.le_of_lt (pow_pos2 i))]
      walk_at "go"
      refine ⟨⟨rfl, i + 1, hib, ?_⟩, ?_⟩
      · rw [← e2]; rfl
      · show (w0 / 2 ^ i / 2).toNat < (w0 / 2 ^ i).toNat
        omega
    · have c' : ¬ 0 < w0 / 2 ^ i := of_decide_eq_false c
      have hz : w0 / 2 ^ i = 0 := by omega
      have hp := pops_high hz (b - i)
      rw [show i + (b - i) = b by omega] at hp
      rw [hp] at q
      exact ⟨_, rfl, q⟩

/-! ### signatures, what a numeric instruction gives -/
def kindOf (z : Str) : Str := cutS z none (some 3)
def wordOf (z : Str) : Str := cutS z (some 4) none
def takenS (z : Str) : Str := if z = "i32.wrap_i64" then "i64" else if z = "i64.extend_i32_s" then "i32" else if z = "i64.extend_i32_u" then "i32" else kindOf z
def oneW : List Str := ["eqz", "clz", "ctz", "popcnt", "extend8_s", "extend16_s", "extend32_s", "wrap_i64", "extend_i32_s", "extend_i32_u"]
def isOne (z : Str) : Bool := oneW.any fun k => decide (k = wordOf z)
def resS (z : Str) : Str := if inV (.str (wordOf z)) (v_COMPARISONS.map V.str) = true then "i32" else kindOf z
def kindsV (z : Str) : List V := if isOne z = true then [.str (takenS z)] else [.str (takenS z), .str (takenS z)]
def formsOf (kd wd : Str) (ns : List Int) : List Int := if Txt.endswith wd "_u" = true then ns.map (· % 2 ^ widN kd) else ns
def tab1 : List (Str × G1) := [("eqz", fun _ x => one (x = 0)), ("clz", fun b x => .ok (b - Builtin.Int.intBits (x % 2 ^ b))), ("ctz", fun b x => .ok (if x = 0 then b else (Builtin.Int.intBits (Builtin.bitAnd x (-x)) : Int) - 1)), ("popcnt", fun b x => .ok (pops b x)), ("extend8_s", fun _ x => .ok (sgn x 8)), ("extend16_s", fun _ x => .ok (sgn x 16)), ("extend32_s", fun _ x => .ok (sgn x 32)), ("wrap_i64", fun _ x => .ok x), ("extend_i32_s", fun _ x => .ok x), ("extend_i32_u", fun _ x => .ok x)]
def tab2 : List (Str × G2) := [("add", fun _ x y => .ok (x + y)), ("sub", fun _ x y => .ok (x - y)), ("mul", fun _ x y => .ok (x * y)), ("div_s", fun b x y => divS b x y), ("div_u", fun _ x y => divZ x y), ("rem_s", fun _ x y => remZ x y), ("rem_u", fun _ x y => remZ x y),
  ("and", fun _ x y => .ok (Builtin.bitAnd x y)), ("or", fun _ x y => .ok (Builtin.bitOr x y)), ("xor", fun _ x y => .ok (Builtin.bitXor x y)), ("shl", fun b x y => .ok (x * 2 ^ (y % b).toNat)), ("shr_s", fun b x y => .ok (x / 2 ^ (y % b).toNat)), ("shr_u", fun b x y => .ok (x / 2 ^ (y % b).toNat)), ("rotl", fun b x y => .ok (rot b x (y % b).toNat)), ("rotr", fun b x y => .ok (rot b x (-y % b).toNat)), ("eq", fun _ x y => one (x = y)), ("ne", fun _ x y => one (¬ x = y)), ("lt_s", fun _ x y => one (x < y)), ("lt_u", fun _ x y => one (x < y)), ("gt_s", fun _ x y => one (y < x)), ("gt_u", fun _ x y => one (y < x)),
  ("le_s", fun _ x y => one (x ≤ y)), ("le_u", fun _ x y => one (x ≤ y)), ("ge_s", fun _ x y => one (y ≤ x)), ("ge_u", fun _ x y => one (y ≤ x))]
def look {α : Type} (t : List (Str × α)) (z : Str) : Option α := (t.find? fun p => decide (p.1 = z)).map (·.2)
theorem look_mem {α : Type} {t : List (Str × α)} {z : Str} {g : α} (h : look t z = some g) : (z, g) ∈ t := by
  unfold look at h
  cases e : t.find? fun p => decide (p.1 = z) with
  | none => rw [e] at h; cases h
  | some p =>
    rw [e] at h
    cases h
    have h1 := List.find?_some e
    have h2 := List.mem_of_find?_eq_some e
    have h3 : p.1 = z := of_decide_eq_true h1
    rw [← h3]; exact h2
def sg (b : Nat) : EZ → EZ
  | .ok r => .ok (sgn r b)
  | .error z => .error z
def calcN (z : Str) (ns : List Int) : Option EZ := match isOne z, formsOf (takenS z) (wordOf z) ns with
  | true, [x] => (look tab1 (wordOf z)).map fun g => sg (widN (resS z)) (g (widN (takenS z)) x)
  | false, [x, y] => (look tab2 (wordOf z)).map fun g => sg (widN (resS z)) (g (widN (takenS z)) x y)
  | _, _ => none
def Fit (z : Str) (ns : List Int) : Prop := ns.length = (kindsV z).length ∧ ∀ x ∈ ns, sgn x (widN (takenS z)) = x
def kindsS (z : Str) : List Str := if isOne z = true then [takenS z] else [takenS z, takenS z]
theorem kindsV_eq (z : Str) : kindsV z = (kindsS z).map V.str := by unfold kindsV kindsS; split <;> rfl
theorem kindsS_at (z : Str) : ∀ i, i < (kindsS z).length → (kindsS z).getD i "" = takenS z := by
  intro i hi
  unfold kindsS at hi ⊢
  split at hi <;> rename_i c
  · rw [if_pos c]
    match i, hi with
    | 0, _ => rfl
  · rw [if_neg c]
    match i, hi with
    | 0, _ => rfl
    | 1, _ => rfl
theorem sgn_rng (n : Int) (b : Nat) (h : 1 ≤ b) : -(2 ^ (b - 1)) ≤ sgn n b ∧ sgn n b < 2 ^ (b - 1) := by
  obtain ⟨c, rfl⟩ : ∃ c, b = c + 1 := ⟨b - 1, by omega⟩
  have p := pow_pos2 c
  have e2 : (2 : Int) ^ (c + 1) = 2 ^ c * 2 := Int.pow_succ 2 c
  have m0 : 0 ≤ n % 2 ^ (c + 1) := Int.emod_nonneg _ (by omega)
  have m1 : n % 2 ^ (c + 1) < 2 ^ (c + 1) := Int.emod_lt_of_pos _ (by omega)
  unfold sgn
  rw [Nat.add_sub_cancel]
  split
  · rename_i hz
    have : n % 2 ^ (c + 1) < 2 ^ c := by
      rcases Int.lt_or_le (n % 2 ^ (c + 1)) (2 ^ c) with h | h
      · exact h
      · have := Int.le_ediv_of_mul_le p (show 1 * 2 ^ c ≤ n % 2 ^ (c + 1) by omega)
        omega
    omega
  · rename_i hz
    have : 2 ^ c ≤ n % 2 ^ (c + 1) := by
      rcases Int.lt_or_le (n % 2 ^ (c + 1)) (2 ^ c) with h | h
      · exact absurd (Int.ediv_eq_zero_of_lt m0 h) hz
      · exact h
    omega
theorem sgn_64 {n : Int} {b : Nat} (h : b = 32 ∨ b = 64) (e : sgn n b = n) : Ok64 n := by
  have r := sgn_rng n b (by omega)
  rw [e] at r
  unfold Ok64
  rcases h with rfl | rfl <;> omega
theorem mod_64 (n : Int) {b : Nat} (h : b = 32 ∨ b = 64) : Ok64 (n % 2 ^ b) := by
  unfold Ok64
  rcases h with rfl | rfl <;> omega
theorem forms_ok {z : Str} {ns : List Int} (h : ∀ x ∈ ns, sgn x (widN (takenS z)) = x) (wd : Str) : ∀ x ∈ formsOf (takenS z) wd ns, Ok64 x := by
  intro x hx
  have hw := widN_or (takenS z)
  unfold formsOf at hx
  split at hx
  · obtain ⟨m, _, rfl⟩ := List.mem_map.mp hx
    exact mod_64 m hw
  · exact sgn_64 hw (h x hx)
theorem valS_some (z : Str) : ∀ kvs : List (Str × V), (valS kvs z).isSome = (kvs.map (·.1)).any fun k => decide (k = z)
  | [] => rfl
  | (x, v) :: r => by
    have ih := valS_some z r
    unfold valS at ih ⊢
    rw [List.find?_cons, List.map_cons, List.any_cons]
    by_cases c : x = z
    · rw [decide_eq_true c]; rfl
    · rw [decide_eq_false c]; exact ih
theorem one_isS (cs : Cs) (z : Str) : (valS (v_ONE_OPERAND cs) (wordOf z)).isSome = isOne z := valS_some _ _
theorem conv_is (cs : Cs) (z : Str) : (valS (v_CONVERTED_KINDS cs) z).getD (.str (kindOf z)) = .str (takenS z) := by
  unfold takenS valS v_CONVERTED_KINDS
  by_cases c1 : z = "i32.wrap_i64"
  · rw [if_pos c1, List.find?_cons, decide_eq_true c1.symm]; rfl
  rw [if_neg c1, List.find?_cons, decide_eq_false (fun e => c1 e.symm)]
  by_cases c2 : z = "i64.extend_i32_s"
  · simp only [List.find?_cons, decide_eq_true c2.symm]; rw [if_pos c2]; rfl
  simp only [List.find?_cons, decide_eq_false (fun e => c2 (Eq.symm e) : ¬ ("i64.extend_i32_s" : Str) = z)]
  rw [if_neg c2]
  by_cases c3 : z = "i64.extend_i32_u"
  · simp only [decide_eq_true c3.symm]; rw [if_pos c3]; rfl
  · simp only [decide_eq_false (fun e => c3 (Eq.symm e) : ¬ ("i64.extend_i32_u" : Str) = z)]
    rw [if_neg c3]; rfl
def S1 (K : PySem.W.Frag) (cs : Cs) (f : Addr) (sp : Sp) : Prop := ∃ wd g, valS (v_ONE_OPERAND cs) wd = some (.ref f) ∧ (wd, g) ∈ tab1 ∧ sp = spO g K cs
def S2 (K : PySem.W.Frag) (cs : Cs) (f : Addr) (sp : Sp) : Prop := ∃ wd g, valS (v_TWO_OPERANDS cs) wd = some (.ref f) ∧ (wd, g) ∈ tab2 ∧ sp = spB g K cs
def LstN (H : Hp) (Q : VK) (xs : List Int) : Prop := ∀ p H', Same H H' → H p = none → H' p = some (.lst (xs.map V.int)) → Q (.ref p) H'
def Known (z : Str) : Bool := inV (.str z) (v_INSTRUCTIONS.map V.str)
def Unk (cs : Cs) (H : Hp) (E : XK) (z : Str) : Prop := ∀ d Hf, Same H Hf → Hf d = some (.xd [("name", .str z)]) → E (.ref cs.C_UnknownInstruction) (some d) Hf
theorem Unk.of {cs : Cs} {H H1 : Hp} {E : XK} {z : Str} (h : Unk cs H E z) (s : Same H H1) : Unk cs H1 E z := fun d Hf s2 e => h d Hf (s.trans s2) e
def sp_signature_of (K : PySem.W.Frag) (cs : Cs) : Sp := fun vs H Q E => ∃ z : Str, vs = [.str z] ∧ z.length ≤ sizeLine ∧
  (Known z = true → ∀ t p r H', Same H H' → H' t = some (.tup [.ref p, .ref r]) → H' p = some (.tup ((kindsS z).map V.str)) → H' r = some (.tup [.str (resS z)]) → Q (.ref t) H') ∧ (Known z = false → Unk cs H E z)
def fit1 (kd : Str) (v : Int) : Bool := decide (sgn v (widN kd) = v)
def aF (ks : List Str) (ns : List Int) (i : Nat) : Bool := (List.range i).all fun j => fit1 (ks.getD j "") (ns.getD j 0)
theorem aF_succ (ks : List Str) (ns : List Int) (i : Nat) : aF ks ns (i + 1) = (aF ks ns i && fit1 (ks.getD i "") (ns.getD i 0)) := by
  unfold aF
  rw [List.range_succ, List.all_append]
  simp
theorem aF_false {ks : List Str} {ns : List Int} {i n : Nat} (h : i < n) (f : fit1 (ks.getD i "") (ns.getD i 0) = false) : aF ks ns n = false := by
  unfold aF
  rw [List.all_eq_false]
  exact ⟨i, List.mem_range.mpr h, by rw [f]; decide⟩
def inRB (ks : List Str) (ns : List Int) : Bool := decide (ks.length = ns.length) && aF ks ns ks.length
def sp_in_range (K : PySem.W.Frag) (cs : Cs) : Sp := fun vs H Q _ => ∃ (p a : Addr) (ks : List Str) (ns : List Int), vs = [.ref p, .ref a] ∧ SqT K H p (ks.map V.str) ∧ SqT K H a (ns.map V.int) ∧ ∀ H', Same H H' → Q (.bl (inRB ks ns)) H'
def sp_forms_of (K : PySem.W.Frag) (cs : Cs) : Sp := fun vs H Q _ => ∃ (kd wd : Str) (a : Addr) (ns : List Int), vs = [.str kd, .str wd, .ref a] ∧ SqT K H a (ns.map V.int) ∧ ns.length ≤ 1000 ∧ LstN H Q (formsOf kd wd ns)
def sp_calculate (K : PySem.W.Frag) (cs : Cs) : Sp := fun vs H Q E => ∃ (z : Str) (a : Addr) (ns : List Int), vs = [.str z, .ref a] ∧ z.length ≤ sizeLine ∧ SqT K H a (ns.map V.int) ∧ ns.length ≤ 1000 ∧
  (Known z = false → Unk cs H E z) ∧ (Known z = true → inRB (kindsS z) ns = false → ∀ H', Same H H' → E (.ref cs.C_BadValues) none H') ∧
  (Known z = true → inRB (kindsS z) ns = true → ∃ g, calcN z ns = some g ∧ (∀ r, g = .ok r → ∀ H', Same H H' → Q (.int r) H') ∧ (∀ m, g = .error m → Trp cs H E m))
theorem fit_of {z : Str} {ns : List Int} (h : inRB (kindsS z) ns = true) : Fit z ns := by
  unfold inRB at h
  rw [Bool.and_eq_true] at h
  have hl : (kindsS z).length = ns.length := of_decide_eq_true h.1
  refine ⟨by rw [kindsV_eq, List.length_map]; exact hl.symm, fun x hx => ?_⟩
  obtain ⟨i, hi, rfl⟩ := List.getElem_of_mem hx
  have h2 := h.2
  unfold aF at h2
  rw [List.all_eq_true] at h2
  have h3 := h2 i (List.mem_range.mpr (by omega))
  unfold fit1 at h3
  have h4 := of_decide_eq_true h3
  rw [kindsS_at z i (by omega), List.getD_eq_getElem?_getD, List.getElem?_eq_getElem hi] at h4
  exact h4
theorem c_signature_of (D : Def K mg "signature_of" s_signature_of ["name"]) (T : Tp w K mg cs)  : Cal P w K mg base (L2.CX P w) 3 "signature_of" (sp_signature_of K cs) := by
  refine D.okX sc_signature_of (fun vs H Q E h => ?_) (fun f cdv A outer s H vs Q E hr h => ?_)
  · obtain ⟨z, rfl, _⟩ := h; rfl
  · obtain ⟨z, rfl, hl, q, qe⟩ := h
    refine ⟨_, (pss_cons (ps_if (pt_cmpR op_notIn_seq (pv 0) (pe_glob (v := .ref cs.t_INSTRUCTIONS) (by rfl) T.g_INSTRUCTIONS rfl) (by first | rfl | exact nomark _)) (pss_one (ps_raise rfl (takes_of rfl rfl rfl rfl) (pmk_oex T.e_UnknownInstruction.T T.iC_UnknownInstruction T.tI_UnknownInstruction (in_UnknownInstruction T) (hr.mono (by decide)) T.b_UnknownInstruction .nil pass0 (by rfl) T.e_UnknownInstruction.g (pa_cons (pv 0) pa_nil)))) pss_nil)
      (pss_cons (ps_set (i := 1) sc_signature_of.nd rfl (by first | exact Or.inl rfl | exact Or.inr rfl) (pe_slice sl_str (pv 0) po_none (po_some pe_int)))
      (pss_cons (ps_set (i := 2) sc_signature_of.nd rfl (by first | exact Or.inl rfl | exact Or.inr rfl) (pe_slice sl_str (pv 0) (po_some pe_int) po_none))
      (pss_cons (ps_set (i := 3) sc_signature_of.nd rfl (by first | exact Or.inl rfl | exact Or.inr rfl) (pe_get2T T.d_CONVERTED_KINDS (pe_glob (v := .ref cs.t_CONVERTED_KINDS) (by rfl) T.g_CONVERTED_KINDS rfl) (pv 0) (pv 1) ⟨by rfl, by rfl, by rfl, by rfl⟩))
      (pss_cons (ps_set (i := 4) sc_signature_of.nd rfl (by first | exact Or.inl rfl | exact Or.inr rfl) (pe_tup (pa_cons (pv 1) pa_nil)))
      (C8.pss_cut (ps_if (pt_cmpR op_in_seq (pv 2) (pe_glob (v := .ref cs.t_COMPARISONS) (by rfl) T.g_COMPARISONS rfl) (by first | rfl | exact nomark _)) (pss_one (ps_set (i := 4) sc_signature_of.nd rfl (by first | exact Or.inl rfl | exact Or.inr rfl) (pe_tup (pa_cons pe_str pa_nil)))) pss_nil)
      (pss_cons (ps_if (pt_cmpR (op_inT T.d_ONE_OPERAND) (pv 2) (pe_glob (v := .ref cs.t_ONE_OPERAND) (by rfl) T.g_ONE_OPERAND rfl) (by first | rfl | exact nomark _)) (pss_one (ps_ret (pe_tup (pa_cons (pe_tup (pa_cons (pv 3) pa_nil)) (pa_cons (pv 4) pa_nil))))) pss_nil)
      (pss_one (ps_ret (pe_tup (pa_cons (pe_tup (pa_cons (pv 3) (pa_cons (pv 3) pa_nil))) (pa_cons (pv 4) pa_nil)))))))))))), ?_⟩
    refine ⟨_, rfl, _, _, rfl, .inr T.d_INSTRUCTIONS.sq, rfl, flat_strs _, ?_⟩
    walk_at "go"
    cases hk : Known z with
    | false =>
      simp only [show inV (.str z) (v_INSTRUCTIONS.map V.str) = false from hk]
      walk_at "go"
      exact fly1 fun d Hf s1 e1 => qe hk d Hf s1 e1
    | true =>
      simp only [show inV (.str z) (v_INSTRUCTIONS.map V.str) = true from hk]
      have q := q hk
      walk_at "go"
      intro r hr
      have eT : (valS (v_CONVERTED_KINDS cs) z).getD (.str (cutS z none (some 3))) = .str (takenS z) := conv_is cs z
      rw [eT]
      refine ⟨fun σ H2 => ∃ r, σ = [some (.str z), some (.str (kindOf z)), some (.str (wordOf z)), some (.str (takenS z)), some (.ref r)] ∧ Same H H2 ∧ H2 r = some (.tup [.str (resS z)]), ?_, ?_⟩
      · refine ⟨_, rfl, _, _, rfl, .inr T.d_COMPARISONS.sq, rfl, flat_strs _, ?_⟩
        walk_at "go"
        refine ite2 (fun c => ?_) (fun c => ?_)
        · walk_at "go"
          intro r2 hr2
          refine ⟨r2, rfl, (Same.new hr).trans (Same.new hr2), ?_⟩
          rw [upd_same, show resS z = "i32" from if_pos c]
        · refine ⟨r, rfl, Same.new hr, ?_⟩
          rw [upd_same, show resS z = kindOf z from if_neg c]
          rfl
      rintro _ H2 ⟨r2, rfl, s2, h2⟩
      have eO := one_isS cs z
      walk_at "go"
      rw [eO]
      refine ite2 (fun c => ?_) (fun c => ?_)
      · walk_at "go"
        intro p hp
        walk_at "go"
        intro t ht
        have n1 : p ≠ r2 := (ne_of_none h2 hp).symm
        have n2 : t ≠ r2 := (ne_of_none (by rw [upd_ne n1.symm]; exact h2) ht).symm
        have n3 : t ≠ p := fun e => by rw [e, upd_same] at ht; cases ht
        refine q t p r2 _ (s2.trans ((Same.new hp).trans (Same.new ht))) upd_same ?_ ?_
        · rw [upd_ne n3.symm, upd_same, show kindsS z = _ from if_pos c]; rfl
        · rw [upd_ne n2.symm, upd_ne n1.symm]; exact h2
      · walk_at "go"
        intro p hp
        walk_at "go"
        intro t ht
        have n1 : p ≠ r2 := (ne_of_none h2 hp).symm
        have n2 : t ≠ r2 := (ne_of_none (by rw [upd_ne n1.symm]; exact h2) ht).symm
        have n3 : t ≠ p := fun e => by rw [e, upd_same] at ht; cases ht
        refine q t p r2 _ (s2.trans ((Same.new hp).trans (Same.new ht))) upd_same ?_ ?_
        · rw [upd_ne n3.symm, upd_same, show kindsS z = _ from if_neg c]; rfl
        · rw [upd_ne n2.symm, upd_ne n1.symm]; exact h2
theorem c_in_range (D : Def K mg "in_range" s_in_range ["kinds", "operands"]) (T : Tp w K mg cs) (c_signed : Cal P w K mg base CX0 2 "signed" (sp_signed K cs)) : Cal P w K mg base CX0 3 "in_range" (sp_in_range K cs) := by
  refine D.ok sc_in_range (fun vs H Q E h => ?_) (fun f cdv A outer s H vs Q E hr h => ?_)
  · obtain ⟨p, a, ks, ns, rfl, _⟩ := h; rfl
  · obtain ⟨p, a, ks, ns, rfl, hp, ha, q⟩ := h
    refine ⟨_, (pss_cons (ps_if (pt_cmpR op_ne (pe_callB call_len_seq (by rfl) T.m_len PySem.boot_len (pa_cons (pv 0) pa_nil)) (pe_callB call_len_seq (by rfl) T.m_len PySem.boot_len (pa_cons (pv 1) pa_nil)) (by first | rfl | exact nomark _)) (pss_one (ps_ret pe_bl)) pss_nil)
      (pss_cons (ps_for PassesOwn.never rfl (RZ.pi_zipA (by rfl) T.m_zip (pa_cons (pv 0) (pa_cons (pv 1) pa_nil))) (pg_tup (by rfl) (pgs_cons (pg_name (i := 2) sc_in_range.nd rfl (by first | exact Or.inl rfl | exact Or.inr rfl)) (pgs_cons (pg_name (i := 3) sc_in_range.nd rfl (by first | exact Or.inl rfl | exact Or.inr rfl)) pgs_nil))) (pss_one (ps_if (pt_cmpR op_ne (pe_c c_signed hr (by decide) (by rfl) (pa_cons (pv 2) (pa_cons (pv 3) pa_nil))) (pv 3) (by first | rfl | exact nomark _)) (pss_one (ps_ret pe_bl)) pss_nil)))
      (pss_one (ps_ret pe_bl)))), ?_⟩
    walk_at "go"
    simp only [List.length_map]
    refine ite2 (fun c => ?_) (fun c => ?_)
    · have c' : ¬ ks.length = ns.length := fun z => ne_of_nd c (congrArg Int.ofNat z)
      have e : inRB ks ns = false := by unfold inRB; rw [decide_eq_false c']; rfl
      rw [e] at q
      exact q _ (Same.refl _)
    have hl : ks.length = ns.length := Int.ofNat.inj (eq_of_nd c)
    have eB : inRB ks ns = aF ks ns ns.length := by unfold inRB; rw [decide_eq_true hl, hl]; rfl
    rw [eB] at q
    walk_at "go"
    refine ⟨p, a, _, _, rfl, .inr ⟨hp, ha, ?_⟩⟩
    refine for_zipD (xs := ks.map V.str) (ys := ns.map V.int) (by rw [List.length_map, List.length_map]; exact hl) (fun i σ H2 => Same H H2 ∧ aF ks ns i = true ∧ ∃ o1 o2, σ = [some (.ref p), some (.ref a), o1, o2]) ⟨Same.refl _, rfl, none, none, rfl⟩ (fun i σ H2 h => ⟨sqT_same h.1 hp, sqT_same h.1 ha⟩) ?_ ?_
    · rintro i x y t _ H2 hx hy ⟨s2, hF, o1, o2, rfl⟩ ht
      obtain ⟨hi, ex⟩ : i < ks.length ∧ x = .str (ks.getD i "") := by
        rw [List.getElem?_map] at hx
        cases e : ks[i]? with
        | none => rw [e] at hx; cases hx
        | some k => rw [e] at hx; cases hx; exact ⟨(List.getElem?_eq_some_iff.mp e).1, by rw [List.getD_eq_getElem?_getD, e]; rfl⟩
      have ey : y = .int (ns.getD i 0) := by
        rw [List.getElem?_map] at hy
        cases e : ns[i]? with
        | none => rw [e] at hy; cases hy
        | some k => rw [e] at hy; cases hy; rw [List.getD_eq_getElem?_getD, e]; rfl
      subst ex ey
      refine ⟨t, _, rfl, SqT.new, rfl, ?_⟩
      walk_at "go"
      refine ite2 (fun c => ?_) (fun c => ?_)
      · have f : fit1 (ks.getD i "") (ns.getD i 0) = false := by
          unfold fit1
          exact decide_eq_false (ne_of_nd c)
        rw [aF_false (n := ns.length) (by omega) f] at q
        exact q _ (s2.trans (Same.new ht))
      · have f : fit1 (ks.getD i "") (ns.getD i 0) = true := by
          unfold fit1
          exact decide_eq_true (eq_of_nd c)
        exact ⟨s2.trans (Same.new ht), by rw [aF_succ, hF, f]; rfl, _, _, rfl⟩
    · rintro _ H2 ⟨s2, hF, o1, o2, rfl⟩
      rw [List.length_map, hl] at hF
      rw [hF] at q
      exact q _ s2
theorem c_forms_of (D : Def K mg "forms_of" s_forms_of ["kind", "word", "operands"]) (T : Tp w K mg cs) (c_unsigned : Cal P w K mg base CX0 2 "unsigned" (sp_unsigned K cs)) : Cal P w K mg base CX0 3 "forms_of" (sp_forms_of K cs) := by
  refine D.ok sc_forms_of (fun vs H Q E h => ?_) (fun f cdv A outer s H vs Q E hr h => ?_)
  · obtain ⟨kd, wd, a, ns, rfl, _⟩ := h; rfl
  · obtain ⟨kd, wd, a, ns, rfl, ha, hl, q⟩ := h
    refine ⟨_, (pss_cons (ps_if (pt_val (pe_m1 PySem.F.slot_str_endswith PySem.F.type_str_endswith mt_endswith (pv 1) pe_str)) (pss_one (ps_ret (pe_lc (own := [("operand", 3)]) (g := gName 3) (tt := tYes) (by rfl) sc_forms_of.nd (pi_tup (pv 2)) (blkOk_by (own := [("operand", 3)]) (N := ["kind", "word", "operands", "operand"]) (sc := defScope s_forms_of) (by decide +kernel)) (fun _ _ _ _ _ => (pg_name (i := 3) sc_forms_of.nd rfl (by first | exact Or.inl rfl | exact Or.inr rfl))) (fun _ _ _ _ _ => pts_nil) (fun _ _ _ _ _ => (pe_c c_unsigned hr (by decide) (by rfl) (pa_cons (pv 0) (pa_cons (pv 3) pa_nil))))))) pss_nil)
      (pss_one (ps_ret (pe_callTy call_list_of (by rfl) T.m_list (by decide +kernel) (pa_cons (pv 2) pa_nil))))), ?_⟩
    refine ⟨_, rfl, ⟨_, rfl⟩, ?_⟩
    walk_at "go"
    refine ite2 (fun c => ?_) (fun c => ?_)
    · have e : formsOf kd wd ns = ns.map (· % 2 ^ widN kd) := if_pos c
      rw [e] at q
      walk_at "go"
      refine ⟨⟨_, ha⟩, fun D hD => lc_mapT (j := 3) (f := fun v => match v with | .int i => .int (i % 2 ^ widN kd) | v => v) hD ha (by rw [List.length_map]; omega) (fun x H2 Q2 hx s2 q2 => ?_) (fun H2 s2 hD2 => ?_)⟩
      · obtain ⟨m, _, rfl⟩ := List.mem_map.mp hx
        walk_at "go"
        exact q2 _ (Same.refl _)
      · refine q D H2 s2 hD ?_
        rw [hD2, List.map_map, List.map_map]; rfl
    · have e : formsOf kd wd ns = ns := if_neg c
      rw [e] at q
      walk_at "go"
      intro p hp
      exact q p _ (Same.new hp) hp upd_same
theorem c_calculate (D : Def K mg "calculate" s_calculate ["name", "operands"]) (T : Tp w K mg cs) (c_signature_of : Cal P w K mg base (L2.CX P w) 3 "signature_of" (sp_signature_of K cs)) (c_width : Cal P w K mg base CX0 1 "width" (sp_width K cs)) (c_forms_of : Cal P w K mg base CX0 3 "forms_of" (sp_forms_of K cs)) (c_signed : Cal P w K mg base CX0 2 "signed" (sp_signed K cs)) (c_in_range : Cal P w K mg base CX0 3 "in_range" (sp_in_range K cs)) (c_either : Cal P w K mg base (L2.CX P w) 1 "either" (sp_either K cs)) (c_differing : Cal P w K mg base (L2.CX P w) 1 "differing" (sp_differing K cs)) (c_shift_left : Cal P w K mg base (L2.CX P w) 1 "shift_left" (sp_shift_left K cs)) (c_shift_right : Cal P w K mg base (L2.CX P w) 1 "shift_right" (sp_shift_right K cs)) (c_rotate_left : Cal P w K mg base (L2.CX P w) 3 "rotate_left" (sp_rotate_left K cs)) (c_rotate_right : Cal P w K mg base (L2.CX P w) 3 "rotate_right" (sp_rotate_right K cs)) (c_leading_zeros : Cal P w K mg base (L2.CX P w) 2 "leading_zeros" (sp_leading_zeros K cs)) (c_trailing_zeros : Cal P w K mg base (L2.CX P w) 1 "trailing_zeros" (sp_trailing_zeros K cs)) (c_ones : Cal P w K mg base (L2.CX P w) 2 "ones" (sp_ones K cs)) (c_add : Cal P w K mg base (L2.CX P w) 1 "add" (sp_add K cs)) (c_sub : Cal P w K mg base (L2.CX P w) 1 "sub" (sp_sub K cs)) (c_mul : Cal P w K mg base (L2.CX P w) 1 "mul" (sp_mul K cs)) (c_quotient : Cal P w K mg base (L2.CX P w) 3 "quotient" (sp_quotient K cs)) (c_signed_quotient : Cal P w K mg base (L2.CX P w) 4 "signed_quotient" (sp_signed_quotient K cs)) (c_remainder : Cal P w K mg base (L2.CX P w) 4 "remainder" (sp_remainder K cs)) (c_both : Cal P w K mg base (L2.CX P w) 1 "both" (sp_both K cs)) (c_same : Cal P w K mg base (L2.CX P w) 1 "same" (sp_same K cs)) (c_other : Cal P w K mg base (L2.CX P w) 1 "other" (sp_other K cs)) (c_less : Cal P w K mg base (L2.CX P w) 1 "less" (sp_less K cs)) (c_greater : Cal P w K mg base (L2.CX P w) 1 "greater" (sp_greater K cs)) (c_at_most : Cal P w K mg base (L2.CX P w) 1 "at_most" (sp_at_most K cs)) (c_at_least : Cal P w K mg base (L2.CX P w) 1 "at_least" (sp_at_least K cs)) (c_is_zero : Cal P w K mg base (L2.CX P w) 1 "is_zero" (sp_is_zero K cs)) (c_extend_8 : Cal P w K mg base (L2.CX P w) 2 "extend_8" (sp_extend_8 K cs)) (c_extend_16 : Cal P w K mg base (L2.CX P w) 2 "extend_16" (sp_extend_16 K cs)) (c_extend_32 : Cal P w K mg base (L2.CX P w) 2 "extend_32" (sp_extend_32 K cs)) (c_unchanged : Cal P w K mg base (L2.CX P w) 1 "unchanged" (sp_unchanged K cs)) : Cal P w K mg base (L2.CX P w) 5 "calculate" (sp_calculate K cs) := by
  refine D.okX sc_calculate (fun vs H Q E h => ?_) (fun f cdv A outer s H vs Q E hr h => ?_)
  · obtain ⟨z, a, ns, rfl, _⟩ := h; rfl
  · obtain ⟨z, a, ns, rfl, hl, ha, hn, qu, qb, qg⟩ := h
    have B1 : ∀ p ∈ tab1, ∃ (f : Addr) (y : Str), valS (v_ONE_OPERAND cs) p.1 = some (.ref f) ∧ Cal P w K mg base (L2.CX P w) 4 y (spO p.2 K cs) ∧ mg y = some (.ref f) := by
      refine List.forall_mem_cons.mpr ⟨⟨_, "is_zero", rfl, c_is_zero.mono (by decide), T.h_is_zero⟩, ?_⟩
      refine List.forall_mem_cons.mpr ⟨⟨_, "leading_zeros", rfl, c_leading_zeros.mono (by decide), T.h_leading_zeros⟩, ?_⟩
      refine List.forall_mem_cons.mpr ⟨⟨_, "trailing_zeros", rfl, c_trailing_zeros.mono (by decide), T.h_trailing_zeros⟩, ?_⟩
      refine List.forall_mem_cons.mpr ⟨⟨_, "ones", rfl, c_ones.mono (by decide), T.h_ones⟩, ?_⟩
      refine List.forall_mem_cons.mpr ⟨⟨_, "extend_8", rfl, c_extend_8.mono (by decide), T.h_extend_8⟩, ?_⟩
      refine List.forall_mem_cons.mpr ⟨⟨_, "extend_16", rfl, c_extend_16.mono (by decide), T.h_extend_16⟩, ?_⟩
      refine List.forall_mem_cons.mpr ⟨⟨_, "extend_32", rfl, c_extend_32.mono (by decide), T.h_extend_32⟩, ?_⟩
      refine List.forall_mem_cons.mpr ⟨⟨_, "unchanged", rfl, c_unchanged.mono (by decide), T.h_unchanged⟩, ?_⟩
      refine List.forall_mem_cons.mpr ⟨⟨_, "unchanged", rfl, c_unchanged.mono (by decide), T.h_unchanged⟩, ?_⟩
      refine List.forall_mem_cons.mpr ⟨⟨_, "unchanged", rfl, c_unchanged.mono (by decide), T.h_unchanged⟩, fun _ h => nomatch h⟩
    have B2 : ∀ p ∈ tab2, ∃ (f : Addr) (y : Str), valS (v_TWO_OPERANDS cs) p.1 = some (.ref f) ∧ Cal P w K mg base (L2.CX P w) 4 y (spB p.2 K cs) ∧ mg y = some (.ref f) := by
      refine List.forall_mem_cons.mpr ⟨⟨_, "add", rfl, c_add.mono (by decide), T.h_add⟩, ?_⟩
      refine List.forall_mem_cons.mpr ⟨⟨_, "sub", rfl, c_sub.mono (by decide), T.h_sub⟩, ?_⟩
      refine List.forall_mem_cons.mpr ⟨⟨_, "mul", rfl, c_mul.mono (by decide), T.h_mul⟩, ?_⟩
      refine List.forall_mem_cons.mpr ⟨⟨_, "signed_quotient", rfl, c_signed_quotient.mono (by decide), T.h_signed_quotient⟩, ?_⟩
      refine List.forall_mem_cons.mpr ⟨⟨_, "quotient", rfl, c_quotient.mono (by decide), T.h_quotient⟩, ?_⟩
      refine List.forall_mem_cons.mpr ⟨⟨_, "remainder", rfl, c_remainder.mono (by decide), T.h_remainder⟩, ?_⟩
      refine List.forall_mem_cons.mpr ⟨⟨_, "remainder", rfl, c_remainder.mono (by decide), T.h_remainder⟩, ?_⟩
      refine List.forall_mem_cons.mpr ⟨⟨_, "both", rfl, c_both.mono (by decide), T.h_both⟩, ?_⟩
      refine List.forall_mem_cons.mpr ⟨⟨_, "either", rfl, c_either.mono (by decide), T.h_either⟩, ?_⟩
      refine List.forall_mem_cons.mpr ⟨⟨_, "differing", rfl, c_differing.mono (by decide), T.h_differing⟩, ?_⟩
      refine List.forall_mem_cons.mpr ⟨⟨_, "shift_left", rfl, c_shift_left.mono (by decide), T.h_shift_left⟩, ?_⟩
      refine List.forall_mem_cons.mpr ⟨⟨_, "shift_right", rfl, c_shift_right.mono (by decide), T.h_shift_right⟩, ?_⟩
      refine List.forall_mem_cons.mpr ⟨⟨_, "shift_right", rfl, c_shift_right.mono (by decide), T.h_shift_right⟩, ?_⟩
      refine List.forall_mem_cons.mpr ⟨⟨_, "rotate_left", rfl, c_rotate_left.mono (by decide), T.h_rotate_left⟩, ?_⟩
      refine List.forall_mem_cons.mpr ⟨⟨_, "rotate_right", rfl, c_rotate_right.mono (by decide), T.h_rotate_right⟩, ?_⟩
      refine List.forall_mem_cons.mpr ⟨⟨_, "same", rfl, c_same.mono (by decide), T.h_same⟩, ?_⟩
      refine List.forall_mem_cons.mpr ⟨⟨_, "other", rfl, c_other.mono (by decide), T.h_other⟩, ?_⟩
      refine List.forall_mem_cons.mpr ⟨⟨_, "less", rfl, c_less.mono (by decide), T.h_less⟩, ?_⟩
      refine List.forall_mem_cons.mpr ⟨⟨_, "less", rfl, c_less.mono (by decide), T.h_less⟩, ?_⟩
      refine List.forall_mem_cons.mpr ⟨⟨_, "greater", rfl, c_greater.mono (by decide), T.h_greater⟩, ?_⟩
      refine List.forall_mem_cons.mpr ⟨⟨_, "greater", rfl, c_greater.mono (by decide), T.h_greater⟩, ?_⟩
      refine List.forall_mem_cons.mpr ⟨⟨_, "at_most", rfl, c_at_most.mono (by decide), T.h_at_most⟩, ?_⟩
      refine List.forall_mem_cons.mpr ⟨⟨_, "at_most", rfl, c_at_most.mono (by decide), T.h_at_most⟩, ?_⟩
      refine List.forall_mem_cons.mpr ⟨⟨_, "at_least", rfl, c_at_least.mono (by decide), T.h_at_least⟩, ?_⟩
      refine List.forall_mem_cons.mpr ⟨⟨_, "at_least", rfl, c_at_least.mono (by decide), T.h_at_least⟩, fun _ h => nomatch h⟩
    have A1 : ∀ f sp, S1 K cs f sp → ∃ y, Cal P w K mg base (L2.CX P w) 4 y sp ∧ mg y = some (.ref f) := by
      rintro f _ ⟨wd, g, h1, h2, rfl⟩
      obtain ⟨f', y, e, c, m⟩ := B1 _ h2
      rw [h1] at e
      cases e
      exact ⟨y, c, m⟩
    have A2 : ∀ f sp, S2 K cs f sp → ∃ y, Cal P w K mg base (L2.CX P w) 4 y sp ∧ mg y = some (.ref f) := by
      rintro f _ ⟨wd, g, h1, h2, rfl⟩
      obtain ⟨f', y, e, c, m⟩ := B2 _ h2
      rw [h1] at e
      cases e
      exact ⟨y, c, m⟩
    refine ⟨_, (pss_cons (ps_asg (pe_cE c_signature_of hr (by decide) (passes_call (takes_of rfl rfl rfl rfl) (fun _ _ _ _ h => h)) (by rfl) (pa_cons (pv 0) pa_nil)) (pg_tup (by rfl) (pgs_cons (pg_name (i := 2) sc_calculate.nd rfl (by first | exact Or.inl rfl | exact Or.inr rfl)) (pgs_cons (pg_name (i := 3) sc_calculate.nd rfl (by first | exact Or.inl rfl | exact Or.inr rfl)) pgs_nil))))
      (pss_cons (ps_if (pt_not (pt_val (pe_c c_in_range hr (by decide) (by rfl) (pa_cons (pv 2) (pa_cons (pv 1) pa_nil))))) (pss_one (ps_raise rfl (takes_of rfl rfl rfl rfl) (pmk_own0 PySem.F.excBase_ValueError T.x0_BadValues T.g_BadValues T.k0_BadValues (raises_own T.b0_BadValues T.t0_BadValues) (by exact rfl)))) pss_nil)
      (pss_cons (ps_set (i := 4) sc_calculate.nd rfl (by first | exact Or.inl rfl | exact Or.inr rfl) (pe_slice sl_str (pv 0) (po_some pe_int) po_none))
      (pss_cons (ps_set (i := 5) sc_calculate.nd rfl (by first | exact Or.inl rfl | exact Or.inr rfl) (pe_c c_width hr (by decide) (by rfl) (pa_cons (pe_ix ix_tup (pv 2) pe_int (fun _ _ => rfl)) pa_nil)))
      (pss_cons (ps_set (i := 6) sc_calculate.nd rfl (by first | exact Or.inl rfl | exact Or.inr rfl) (pe_c c_forms_of hr (by decide) (by rfl) (pa_cons (pe_ix ix_tup (pv 2) pe_int (fun _ _ => rfl)) (pa_cons (pv 4) (pa_cons (pv 1) pa_nil)))))
      (pss_cons (ps_if (pt_cmpR (op_inT T.d_ONE_OPERAND) (pv 4) (pe_glob (v := .ref cs.t_ONE_OPERAND) (by rfl) T.g_ONE_OPERAND rfl) (by first | rfl | exact nomark _)) (pss_cons (ps_set (i := 7) sc_calculate.nd rfl (by first | exact Or.inl rfl | exact Or.inr rfl) (pe_ix (ix_T T.d_ONE_OPERAND) (pe_glob (v := .ref cs.t_ONE_OPERAND) (by rfl) T.g_ONE_OPERAND rfl) (pv 4) (fun _ _ => rfl)))
      (pss_one (ps_ret (pe_c c_signed hr (by decide) (by rfl) (pa_cons (pe_ix ix_tup (pv 3) pe_int (fun _ _ => rfl)) (pa_cons (pe_callT (i := 7) (S := S1 K cs) (C := L2.CX P w) (E := E) (k := 4) A1 hr (by decide) rfl (by first | exact Or.inl rfl | exact Or.inr rfl) (passes_call (takes_of rfl rfl rfl rfl) (fun _ _ _ _ h => h)) (pa_cons (pv 5) (pa_cons (pe_ix ix_list (pv 6) pe_int (fun _ _ => rfl)) pa_nil))) pa_nil)))))) pss_nil)
      (pss_cons (ps_set (i := 7) sc_calculate.nd rfl (by first | exact Or.inl rfl | exact Or.inr rfl) (pe_ix (ix_T T.d_TWO_OPERANDS) (pe_glob (v := .ref cs.t_TWO_OPERANDS) (by rfl) T.g_TWO_OPERANDS rfl) (pv 4) (fun _ _ => rfl)))
      (pss_one (ps_ret (pe_c c_signed hr (by decide) (by rfl) (pa_cons (pe_ix ix_tup (pv 3) pe_int (fun _ _ => rfl)) (pa_cons (pe_callT (i := 7) (S := S2 K cs) (C := L2.CX P w) (E := E) (k := 4) A2 hr (by decide) rfl (by first | exact Or.inl rfl | exact Or.inr rfl) (passes_call (takes_of rfl rfl rfl rfl) (fun _ _ _ _ h => h)) (pa_cons (pv 5) (pa_cons (pe_ix ix_list (pv 6) pe_int (fun _ _ => rfl)) (pa_cons (pe_ix ix_list (pv 6) pe_int (fun _ _ => rfl)) pa_nil)))) pa_nil)))))))))))), ?_⟩
    walk_at "go"
    refine ⟨fun hk t p r H1 s1 ht hp hr => ?_, qu⟩
    refine ⟨t, _, rfl, SqT.of ht, rfl, ?_⟩
    have ha1 := sqT_same s1 ha
    walk_at "go"
    refine ⟨p, a, kindsS z, ns, rfl, SqT.of hp, ha1, fun H2 s2 => ?_⟩
    cases hin : inRB (kindsS z) ns with
    | false =>
      walk_at "go"
      exact qb hk hin _ (s1.trans s2)
    | true =>
    obtain ⟨g, hg, q, qe⟩ := qg hk hin
    have hf := fit_of hin
    have hp1 : SqT K H1 p ((kindsS z).map V.str) := SqT.of hp
    have hkl : (kindsS z).length = ns.length := by have := hf.1; rw [kindsV_eq, List.length_map] at this; exact this.symm
    have hln : ns.length ≤ 2 := by rw [← hkl]; unfold kindsS; split <;> simp
    obtain ⟨rest, er⟩ : ∃ rest, kindsV z = .str (takenS z) :: rest := by unfold kindsV; split <;> exact ⟨_, rfl⟩
    rw [← kindsV_eq] at hp
    have hp2 : SqT K H2 p (.str (takenS z) :: rest) := by rw [← er]; exact SqT.of (s2 _ _ hp)
    have hr2 : SqT K H2 r [.str (resS z)] := SqT.of (s2 _ _ hr)
    have ha2 := sqT_same s2 ha1
    have e0 : atI (.str (takenS z) :: rest) (0 : Int) = some (.str (takenS z)) := atI_nat (j := 0) rfl
    have hwd : widN (takenS z) = 32 ∨ widN (takenS z) = 64 := widN_or _
    have hcalc := hg
    unfold calcN at hcalc
    walk_at "go"
    refine ⟨p, _, 0, _, rfl, rfl, hp2, e0, ?_⟩
    walk_at "go"
    refine ⟨p, _, 0, _, rfl, rfl, hp2, e0, ?_⟩
    walk_at "go"
    refine ⟨takenS z, wordOf z, a, ns, rfl, ha2, by omega, fun fp H3 s3 _ hfp => ?_⟩
    have hr3 : SqT K H3 r [.str (resS z)] := sqT_same s3 hr2
    have hf3 : SqL K H3 fp ((formsOf (takenS z) (wordOf z) ns).map V.int) := SqL.of hfp
    have s03 := s1.trans (s2.trans s3)
    have hok := forms_ok (z := z) hf.2 (wordOf z)
    generalize formsOf (takenS z) (wordOf z) ns = fs at hcalc hf3 hfp hok
    have eO := one_isS cs z
    walk_at "go"
    rw [show (valS (v_ONE_OPERAND cs) (cutS z (some 4) none)).isSome = isOne z from eO]
    cases hO : isOne z with
    | true =>
      rw [hO] at hcalc
      rcases fs with _ | ⟨x, _ | ⟨y, _ | _⟩⟩
      · exact absurd hcalc (by simp)
      rotate_left
      · exact absurd hcalc (by simp)
      · exact absurd hcalc (by simp)
      obtain ⟨gg, hl1, rfl⟩ := Option.map_eq_some_iff.mp hcalc
      have hm := look_mem hl1
      obtain ⟨f, y, hv, _, _⟩ := B1 _ hm
      have hox := hok x (List.mem_cons_self ..)
      walk_at "go"
      refine ⟨wordOf z, .ref f, rfl, rfl, hv, ?_⟩
      walk_at "go"
      refine ⟨f, _, rfl, ⟨wordOf z, gg, hv, hm, rfl⟩, ?_⟩
      walk_at "go"
      refine ⟨fun r' hr' => ?_, fun m hm' => (qe _ (by rw [hm']; rfl)).of s03⟩
      walk_at "go"
      exact q _ (by rw [hr']; rfl) _ s03
    | false =>
      rw [hO] at hcalc
      rcases fs with _ | ⟨x, _ | ⟨y, _ | _⟩⟩
      · exact absurd hcalc (by simp)
      · exact absurd hcalc (by simp)
      rotate_left
      · exact absurd hcalc (by simp)
      obtain ⟨gg, hl1, rfl⟩ := Option.map_eq_some_iff.mp hcalc
      have hm := look_mem hl1
      obtain ⟨f, y', hv, _, _⟩ := B2 _ hm
      have hox := hok x (List.mem_cons_self ..)
      have hoy := hok y (List.mem_cons_of_mem _ (List.mem_cons_self ..))
      walk_at "go"
      refine ⟨wordOf z, .ref f, rfl, rfl, hv, ?_⟩
      walk_at "go"
      refine ⟨f, _, rfl, ⟨wordOf z, gg, hv, hm, rfl⟩, ?_⟩
      walk_at "go"
      refine ⟨_, x, y, rfl, hwd, hox, hoy, fun r' hr' => ?_, fun m hm' => (qe _ (by rw [hm']; rfl)).of s03⟩
      walk_at "go"
      exact q _ (by rw [hr']; rfl) _ s03

theorem sgn_if (n : Int) (b : Nat) (h : 1 ≤ b) : sgn n b = if 2 ^ (b - 1) ≤ n % 2 ^ b then n % 2 ^ b - 2 ^ b else n % 2 ^ b := by
  obtain ⟨c, rfl⟩ : ∃ c, b = c + 1 := ⟨b - 1, by omega⟩
  have p := pow_pos2 c
  have e2 : (2 : Int) ^ (c + 1) = 2 ^ c * 2 := Int.pow_succ 2 c
  have m0 : 0 ≤ n % 2 ^ (c + 1) := Int.emod_nonneg _ (by omega)
  unfold sgn
  rw [Nat.add_sub_cancel]
  by_cases h : 2 ^ c ≤ n % 2 ^ (c + 1)
  · have := Int.le_ediv_of_mul_le p (show 1 * 2 ^ c ≤ n % 2 ^ (c + 1) by omega)
    rw [if_neg (by omega), if_pos h]
  · rw [if_pos (Int.ediv_eq_zero_of_lt m0 (by omega)), if_neg h]
theorem sgn_id {n : Int} {b : Nat} (h : 1 ≤ b) (h1 : -(2 ^ (b - 1)) ≤ n) (h2 : n < 2 ^ (b - 1)) : sgn n b = n := by
  rw [sgn_if n b h]
  obtain ⟨c, rfl⟩ : ∃ c, b = c + 1 := ⟨b - 1, by omega⟩
  have p := pow_pos2 c
  have e2 : (2 : Int) ^ (c + 1) = 2 ^ c * 2 := Int.pow_succ 2 c
  rw [Nat.add_sub_cancel] at *
  by_cases hn : 0 ≤ n
  · rw [Int.emod_eq_of_lt hn (by omega), if_neg (by omega)]
  · have e : n % 2 ^ (c + 1) = n + 2 ^ (c + 1) := by
      rw [← Int.add_emod_right, Int.emod_eq_of_lt (by omega) (by omega)]
    rw [e, if_pos (by omega)]; omega
theorem sgn_sgn (n : Int) (b : Nat) (h : 1 ≤ b) : sgn (sgn n b) b = sgn n b := sgn_id h (sgn_rng n b h).1 (sgn_rng n b h).2
def edges16 : List Int := [0, 1, -1, 2, -2, 31, 32, 33, 63, 64, 127, -128, 255, 32767, -32768, 65535]
def sp__law_is_integer (K : PySem.W.Frag) (cs : Cs) : Sp := fun vs H Q _ => ∃ n : Int, vs = [.int n] ∧ Q (.bl true) H
def sp__law_cell (K : PySem.W.Frag) (cs : Cs) : Sp := fun vs H Q _ => ∃ (a : Addr) (ns : List Int) (k : Nat), vs = [.ref a, .int k] ∧ SqL K H a (ns.map V.int) ∧ Q (.int (ns.getD k 0)) H
def sp__law_signed (K : PySem.W.Frag) (cs : Cs) : Sp := fun vs H Q _ => ∃ (n : Int) (b : Nat), vs = [.int n, .int b] ∧ 1 ≤ b ∧ b ≤ 64 ∧ Q (.int (sgn n b)) H
def sp__law_value (K : PySem.W.Frag) (cs : Cs) : Sp := fun vs H Q _ => ∃ (c : Int) (b : Nat), vs = [.int c, .int b] ∧ (b = 32 ∨ b = 64) ∧ ∀ v H', sgn v b = v → Same H H' → Q (.int v) H'
def sp_lawK (K : PySem.W.Frag) : Sp := fun vs H Q _ => ∃ (a : Addr) (ns : List Int), vs = [.ref a] ∧ SqL K H a (ns.map V.int) ∧ ns.length ≤ 63 ∧ ∀ H', Q (.bl true) H'
abbrev sp_law (K : PySem.W.Frag) (_ : Cs) : Sp := sp_lawK K
theorem c__law_is_integer (D : Def K mg "_law_is_integer" s__law_is_integer ["actual"]) (T : Tp w K mg cs)  : Cal P w K mg base CX0 1 "_law_is_integer" (sp__law_is_integer K cs) := by
  refine D.ok sc__law_is_integer (fun vs H Q E h => ?_) (fun f cdv A outer s H vs Q E hr h => ?_)
  · obtain ⟨n, rfl, _⟩ := h; rfl
  · obtain ⟨n, rfl, q⟩ := h
    refine ⟨_, (pss_one (ps_ret (pe_and (pe_callB call_isi (by rfl) T.m_isinstance (by decide +kernel) (pa_cons (pv 0) (pa_cons (pe_bltn (v := .ty "int") (u := .type "int") (by rfl) T.m_int (by decide +kernel) rfl) pa_nil))) (pe_one (pe_not (pe_callB call_isi (by rfl) T.m_isinstance (by decide +kernel) (pa_cons (pv 0) (pa_cons (pe_bltn (v := .ty "bool") (u := .type "bool") (by rfl) T.m_bool (by decide +kernel) rfl) pa_nil)))))))), ?_⟩
    walk_at "go"
    exact q
theorem c__law_cell (D : Def K mg "_law_cell" s__law_cell ["script", "k"]) (T : Tp w K mg cs)  : Cal P w K mg base CX0 1 "_law_cell" (sp__law_cell K cs) := by
  refine D.ok sc__law_cell (fun vs H Q E h => ?_) (fun f cdv A outer s H vs Q E hr h => ?_)
  · obtain ⟨a, ns, k, rfl, _⟩ := h; rfl
  · obtain ⟨a, ns, k, rfl, hS, q⟩ := h
    refine ⟨_, (pss_cons (ps_if (pt_cmpR op_lt (pv 1) (pe_callB call_len_seq (by rfl) T.m_len PySem.boot_len (pa_cons (pv 0) pa_nil)) (by first | rfl | exact nomark _)) (pss_one (ps_ret (pe_callTy call_int1 (by rfl) T.m_int (by decide +kernel) (pa_cons (pe_ix ix_list (pv 0) (pv 1) (fun _ _ => rfl)) pa_nil)))) pss_nil)
      (pss_one (ps_ret pe_int))), ?_⟩
    walk_at "go"
    simp only [List.length_map]
    refine ite2 (fun c => ?_) (fun c => ?_)
    · have c' : (k : Int) < ns.length := of_decide_eq_true c
      walk_at "go"
      exact q
    · have c' : ¬ (k : Int) < ns.length := of_decide_eq_false (Bool.eq_false_iff.mpr c)
      rw [List.getD_eq_getElem?_getD, List.getElem?_eq_none (by omega)] at q
      exact q
theorem c__law_signed (D : Def K mg "_law_signed" s__law_signed ["number", "bits"]) (T : Tp w K mg cs)  : Cal P w K mg base CX0 1 "_law_signed" (sp__law_signed K cs) := by
  refine D.ok sc__law_signed (fun vs H Q E h => ?_) (fun f cdv A outer s H vs Q E hr h => ?_)
  · obtain ⟨n, b, rfl, _⟩ := h; rfl
  · obtain ⟨n, b, rfl, h1, h2, q⟩ := h
    refine ⟨_, (pss_cons (ps_set (i := 2) sc__law_signed.nd rfl (by first | exact Or.inl rfl | exact Or.inr rfl) (pe_op op_mod (pe_callTy call_int1 (by rfl) T.m_int (by decide +kernel) (pa_cons (pv 0) pa_nil)) (pe_op op_shl1 pe_int (pv 1))))
      (C8.pss_cut (ps_if (pt_cmpR op_ge (pv 2) (pe_op op_shl1 pe_int (pe_op op_sub (pv 1) pe_int)) (by first | rfl | exact nomark _)) (pss_one (ps_set (i := 2) sc__law_signed.nd rfl (by first | exact Or.inl rfl | exact Or.inr rfl) (pe_op op_sub (pv 2) (pe_op op_shl1 pe_int (pv 1))))) pss_nil)
      (pss_one (ps_ret (pv 2))))), ?_⟩
    have e1 : ((b : Int) - 1).toNat = b - 1 := by omega
    rw [sgn_if n b h1] at q
    walk_at "go"
    refine ⟨fun σ H2 => H = H2 ∧ σ = [some (.int n), some (.int b), some (.int (if 2 ^ (b - 1) ≤ n % 2 ^ b then n % 2 ^ b - 2 ^ b else n % 2 ^ b))], ?_, ?_⟩
    · walk_at "go"
      simp only [e1, Int.toNat_natCast]
      refine ite2 (fun c => ?_) (fun c => ?_)
      · have c' : 2 ^ (b - 1) ≤ n % 2 ^ b := of_decide_eq_true c
        walk_at "go"
        rw [if_pos c']; rfl
      · have c' : ¬ 2 ^ (b - 1) ≤ n % 2 ^ b := of_decide_eq_false (Bool.eq_false_iff.mpr c)
        rw [if_neg c']
        exact ⟨rfl, rfl⟩
    rintro _ _ ⟨rfl, rfl⟩
    exact ⟨_, rfl, q⟩
theorem c__law_value (D : Def K mg "_law_value" s__law_value ["cell", "bits"]) (T : Tp w K mg cs) (c__law_signed : Cal P w K mg base CX0 1 "_law_signed" (sp__law_signed K cs)) : Cal P w K mg base CX0 2 "_law_value" (sp__law_value K cs) := by
  refine D.ok sc__law_value (fun vs H Q E h => ?_) (fun f cdv A outer s H vs Q E hr h => ?_)
  · obtain ⟨ce, b, rfl, _⟩ := h; rfl
  · obtain ⟨ce, b, rfl, hb, q⟩ := h
    refine ⟨_, (pss_cons (ps_set (i := 2) sc__law_value.nd rfl (by first | exact Or.inl rfl | exact Or.inr rfl) (pe_lst (pa_cons pe_int (pa_cons pe_int (pa_cons (pe_un un_neg pe_int) (pa_cons pe_int (pa_cons (pe_un un_neg pe_int) (pa_cons pe_int (pa_cons pe_int (pa_cons pe_int (pa_cons pe_int (pa_cons pe_int (pa_cons pe_int (pa_cons (pe_un un_neg pe_int) (pa_cons pe_int (pa_cons pe_int (pa_cons (pe_un un_neg pe_int) (pa_cons pe_int pa_nil))))))))))))))))))
      (pss_cons (ps_set (i := 3) sc__law_value.nd rfl (by first | exact Or.inl rfl | exact Or.inr rfl) (pe_op op_fdiv (pv 0) pe_int))
      (C8.pss_cut (ps_if (pt_cmpR op_eq (pe_op op_mod (pe_callTy call_int1 (by rfl) T.m_int (by decide +kernel) (pa_cons (pv 0) pa_nil)) pe_int) pe_int (by first | rfl | exact nomark _)) (pss_one (ps_set (i := 3) sc__law_value.nd rfl (by first | exact Or.inl rfl | exact Or.inr rfl) (pe_ix ix_list (pv 2) (pe_op op_mod (pe_callTy call_int1 (by rfl) T.m_int (by decide +kernel) (pa_cons (pv 3) pa_nil)) pe_int) (fun _ _ => rfl)))) pss_nil)
      (C8.pss_cut (ps_if (pt_cmpR op_eq (pe_op op_mod (pe_callTy call_int1 (by rfl) T.m_int (by decide +kernel) (pa_cons (pv 0) pa_nil)) pe_int) pe_int (by first | rfl | exact nomark _)) (pss_one (ps_set (i := 3) sc__law_value.nd rfl (by first | exact Or.inl rfl | exact Or.inr rfl) (pe_op op_add (pe_op op_mul (pe_op op_mul (pv 3) pe_int) pe_int) pe_int))) pss_nil)
      (C8.pss_cut (ps_if (pt_cmpR op_eq (pe_op op_mod (pe_callTy call_int1 (by rfl) T.m_int (by decide +kernel) (pa_cons (pv 0) pa_nil)) pe_int) pe_int (by first | rfl | exact nomark _)) (pss_one (ps_set (i := 3) sc__law_value.nd rfl (by first | exact Or.inl rfl | exact Or.inr rfl) (pe_op op_add (pe_op op_sub (pe_op op_shl1 pe_int (pe_op op_sub (pv 1) pe_int)) pe_int) (pe_op op_mod (pe_callTy call_int1 (by rfl) T.m_int (by decide +kernel) (pa_cons (pv 3) pa_nil)) pe_int)))) pss_nil)
      (pss_one (ps_ret (pe_c c__law_signed hr (by decide) (by rfl) (pa_cons (pv 3) (pa_cons (pv 1) pa_nil)))))))))), ?_⟩
    have e1 : ((b : Int) - 1).toNat = b - 1 := by omega
    walk_at "go"
    intro p hp
    have s1 := Same.new (o := .lst (edges16.map V.int)) hp
    have hS : SqL K (upd H p (.lst (edges16.map V.int))) p (edges16.map V.int) := SqL.new
    change gName 2 _ _ (upd H p (.lst (edges16.map V.int))) _
    generalize upd H p (.lst (edges16.map V.int)) = H1 at s1 hS ⊢
    walk_at "go"
    refine ⟨fun σ H2 => H1 = H2 ∧ ∃ n, σ = [some (.int ce), some (.int b), some (.ref p), some (.int n)], ?_, ?_⟩
    · walk_at "go"
      refine ite2 (fun c => ?_) (fun c => ?_)
      · walk_at "go"
        obtain ⟨k, ek, hk⟩ : ∃ k : Nat, ce / 4 % 16 = (k : Int) ∧ k < 16 := ⟨(ce / 4 % 16).toNat, by omega, by omega⟩
        show rIxL K (.ref p) (.int (ce / 4 % 16)) H1 _
        rw [ek]
        refine ⟨_, _, _, _, rfl, rfl, hS, at_ints (show k < edges16.length from hk), ?_⟩
        exact ⟨rfl, _, rfl⟩
      · exact ⟨rfl, _, rfl⟩
    rintro _ _ ⟨rfl, n, rfl⟩
    refine ⟨fun σ H2 => H1 = H2 ∧ ∃ n, σ = [some (.int ce), some (.int b), some (.ref p), some (.int n)], ?_, ?_⟩
    · walk_at "go"
      refine ite2 (fun c => ?_) (fun c => ?_)
      · walk_at "go"
        exact ⟨_, rfl⟩
      · exact ⟨rfl, _, rfl⟩
    rintro _ _ ⟨rfl, n, rfl⟩
    refine ⟨fun σ H2 => H1 = H2 ∧ ∃ n, σ = [some (.int ce), some (.int b), some (.ref p), some (.int n)], ?_, ?_⟩
    · walk_at "go"
      refine ite2 (fun c => ?_) (fun c => ?_)
      · walk_at "go"
        exact ⟨_, rfl⟩
      · exact ⟨rfl, _, rfl⟩
    rintro _ _ ⟨rfl, n, rfl⟩
    walk_at "go"
    exact q _ _ (sgn_sgn n b (by omega)) s1

/-! ### cells, edited names -/
def sp__law_char (K : PySem.W.Frag) (cs : Cs) : Sp := fun vs H Q _ => ∃ c : Int, vs = [.int c] ∧ ∀ z : Str, z.length = 1 → Q (.str z) H
theorem ixChar {z : Str} {c : Int} {Q : VK} {H : Hp} (h0 : 0 < z.length) (h1 : z.length ≤ 1000) (q : ∀ y : Str, y.length = 1 → Q (.str y) H) : (0 : Int) < z.length ∧ rIxS (.str z) (.int (c % (z.length : Int))) H Q := by
  refine ⟨by omega, ?_⟩
  obtain ⟨k, ek, hk⟩ : ∃ k : Nat, c % (z.length : Int) = (k : Int) ∧ k < z.length := ⟨(c % (z.length : Int)).toNat, by have := Int.emod_nonneg c (show (z.length : Int) ≠ 0 by omega); omega, by have := Int.emod_lt_of_pos c (show (0 : Int) < z.length by omega); have := Int.emod_nonneg c (show (z.length : Int) ≠ 0 by omega); omega⟩
  rw [ek]
  have hk' : k < z.cps.toList.length := hk
  exact ⟨z, _, z.cps.toList[k], rfl, rfl, small64 (by omega), atI_nat (List.getElem?_eq_getElem hk'), q _ rfl⟩
theorem c__law_char (D : Def K mg "_law_char" s__law_char ["cell"]) (T : Tp w K mg cs)  : Cal P w K mg base CX0 1 "_law_char" (sp__law_char K cs) := by
  refine D.ok sc__law_char (fun vs H Q E h => ?_) (fun f cdv A outer s H vs Q E hr h => ?_)
  · obtain ⟨c, rfl, _⟩ := h; rfl
  · obtain ⟨c, rfl, q⟩ := h
    refine ⟨_, (pss_cons (ps_set (i := 1) sc__law_char.nd rfl (by first | exact Or.inl rfl | exact Or.inr rfl) pe_str)
      (pss_one (ps_ret (pe_ix ix_str (pv 1) (pe_op op_mod (pe_callTy call_int1 (by rfl) T.m_int (by decide +kernel) (pa_cons (pv 0) pa_nil)) (pe_callB call_len_str (by rfl) T.m_len PySem.boot_len (pa_cons (pv 1) pa_nil))) (fun _ _ => rfl))))), ?_⟩
    walk_at "go"
    exact ixChar (by decide +kernel) (by decide +kernel) q
def sp__law_edited (K : PySem.W.Frag) (cs : Cs) : Sp := fun vs H Q _ => ∃ (z : Str) (c : Int), vs = [.str z, .int c] ∧ z.length ≤ 100 ∧ ∀ z' : Str, z'.length ≤ 300 → Q (.str z') H
theorem addS {a b : Str} {Q : VK} {H : Hp} (n m : Nat) (ha : a.length ≤ n) (hb : b.length ≤ m) (h : n + m ≤ 1000) (q : Q (.str (a ++ b)) H) : ∃ i j, V.str a = .str i ∧ V.str b = .str j ∧ i.length + j.length ≤ sizeLine ∧ Q (.str (i ++ j)) H :=
  ⟨a, b, rfl, rfl, small64 (by omega), q⟩
theorem c__law_edited (D : Def K mg "_law_edited" s__law_edited ["name", "cell"]) (T : Tp w K mg cs) (c__law_char : Cal P w K mg base CX0 1 "_law_char" (sp__law_char K cs)) : Cal P w K mg base CX0 2 "_law_edited" (sp__law_edited K cs) := by
  refine D.ok sc__law_edited (fun vs H Q E h => ?_) (fun f cdv A outer s H vs Q E hr h => ?_)
  · obtain ⟨z, c, rfl, _⟩ := h; rfl
  · obtain ⟨z, c, rfl, hz, q⟩ := h
    refine ⟨_, (pss_cons (ps_set (i := 2) sc__law_edited.nd rfl (by first | exact Or.inl rfl | exact Or.inr rfl) (pe_op op_mod (pe_op op_fdiv (pe_callTy call_int1 (by rfl) T.m_int (by decide +kernel) (pa_cons (pv 1) pa_nil)) pe_int) (pe_op op_add (pe_callB call_len_str (by rfl) T.m_len PySem.boot_len (pa_cons (pv 0) pa_nil)) pe_int)))
      (pss_cons (ps_set (i := 3) sc__law_edited.nd rfl (by first | exact Or.inl rfl | exact Or.inr rfl) (pe_c c__law_char hr (by decide) (by rfl) (pa_cons (pe_op op_fdiv (pv 1) pe_int) pa_nil)))
      (pss_cons (ps_if (pt_cmpR op_eq (pe_op op_mod (pe_callTy call_int1 (by rfl) T.m_int (by decide +kernel) (pa_cons (pv 1) pa_nil)) pe_int) pe_int (by first | rfl | exact nomark _)) (pss_one (ps_ret (pe_op op_add_str (pe_op op_add_str (pe_slice sl_str (pv 0) po_none (po_some (pv 2))) (pv 3)) (pe_slice sl_str (pv 0) (po_some (pv 2)) po_none)))) pss_nil)
      (pss_cons (ps_if (pt_cmpR op_eq (pe_op op_mod (pe_callTy call_int1 (by rfl) T.m_int (by decide +kernel) (pa_cons (pv 1) pa_nil)) pe_int) pe_int (by first | rfl | exact nomark _)) (pss_one (ps_ret (pe_op op_add_str (pe_slice sl_str (pv 0) po_none (po_some (pv 2))) (pe_slice sl_str (pv 0) (po_some (pe_op op_add (pv 2) pe_int)) po_none)))) pss_nil)
      (pss_cons (ps_if (pt_cmpR op_eq (pe_op op_mod (pe_callTy call_int1 (by rfl) T.m_int (by decide +kernel) (pa_cons (pv 1) pa_nil)) pe_int) pe_int (by first | rfl | exact nomark _)) (pss_one (ps_ret (pe_op op_add_str (pe_op op_add_str (pe_slice sl_str (pv 0) po_none (po_some (pv 2))) (pv 3)) (pe_slice sl_str (pv 0) (po_some (pe_op op_add (pv 2) pe_int)) po_none)))) pss_nil)
      (pss_one (ps_ret (pe_op op_add_str (pe_slice sl_str (pv 0) (po_some (pv 2)) po_none) (pe_slice sl_str (pv 0) po_none (po_some (pv 2))))))))))), ?_⟩
    have cl : ∀ l h, (cutS z l h).length ≤ 100 := fun l h => Nat.le_trans (cutS_length z l h) hz
    have hzS : z.length ≤ sizeLine := small64 (by omega)
    walk_at "go"
    intro ch hch
    walk_at "go"
    refine ite2 (fun c => ?_) (fun c => ?_)
    · walk_at "go"
      refine ⟨small64 (Nat.le_trans (Nat.add_le_add (cl _ _) (Nat.le_of_eq hch)) (by decide)), ?_⟩
      walk_at "go"
      refine ⟨small64 (by rw [PySem.Str.length_append]; exact Nat.le_trans (Nat.add_le_add (Nat.add_le_add (cl _ _) (Nat.le_of_eq hch)) (cl _ _)) (by decide)), ?_⟩
      refine q _ ?_
      rw [PySem.Str.length_append, PySem.Str.length_append]
      exact Nat.le_trans (Nat.add_le_add (Nat.add_le_add (cl _ _) (Nat.le_of_eq hch)) (cl _ _)) (by decide)
    walk_at "go"
    refine ite2 (fun c => ?_) (fun c => ?_)
    · walk_at "go"
      refine ⟨small64 (Nat.le_trans (Nat.add_le_add (cl _ _) (cl _ _)) (by decide)), ?_⟩
      refine q _ ?_
      rw [PySem.Str.length_append]
      exact Nat.le_trans (Nat.add_le_add (cl _ _) (cl _ _)) (by decide)
    walk_at "go"
    refine ite2 (fun c => ?_) (fun c => ?_)
    · walk_at "go"
      refine ⟨small64 (Nat.le_trans (Nat.add_le_add (cl _ _) (Nat.le_of_eq hch)) (by decide)), ?_⟩
      walk_at "go"
      refine ⟨small64 (by rw [PySem.Str.length_append]; exact Nat.le_trans (Nat.add_le_add (Nat.add_le_add (cl _ _) (Nat.le_of_eq hch)) (cl _ _)) (by decide)), ?_⟩
      refine q _ ?_
      rw [PySem.Str.length_append, PySem.Str.length_append]
      exact Nat.le_trans (Nat.add_le_add (Nat.add_le_add (cl _ _) (Nat.le_of_eq hch)) (cl _ _)) (by decide)
    walk_at "go"
    refine ⟨small64 (Nat.le_trans (Nat.add_le_add (cl _ _) (cl _ _)) (by decide)), ?_⟩
    refine q _ ?_
    rw [PySem.Str.length_append]
    exact Nat.le_trans (Nat.add_le_add (cl _ _) (cl _ _)) (by decide)

def lw13 : List Str := ["add", "sub", "mul", "div_s", "div_u", "rem_s", "rem_u", "and", "or", "xor", "shl", "shr_s", "shr_u"]
def lw12 : List Str := ["rotl", "rotr", "eq", "ne", "lt_s", "lt_u", "gt_s", "gt_u", "le_s", "le_u", "ge_s", "ge_u"]
def lw6 : List Str := ["eqz", "clz", "ctz", "popcnt", "extend8_s", "extend16_s"]
def lw4 : List Str := ["i64.extend32_s", "i32.wrap_i64", "i64.extend_i32_s", "i64.extend_i32_u"]
def lw31 : List Str := lw13 ++ lw12 ++ lw6
def namesL : List Str := lw31.map (("i32." : Str) ++ ·) ++ lw31.map (("i64." : Str) ++ ·) ++ lw4
def sp__law_names (K : PySem.W.Frag) (cs : Cs) : Sp := fun vs H Q _ => vs = [] ∧ LstS H Q namesL
theorem c__law_names (D : Def K mg "_law_names" s__law_names []) (T : Tp w K mg cs)  : Cal P w K mg base CX0 1 "_law_names" (sp__law_names K cs) := by
  refine D.ok sc__law_names (fun vs H Q E h => ?_) (fun f cdv A outer s H vs Q E hr h => ?_)
  · exact h.1 ▸ rfl
  · obtain ⟨rfl, q⟩ := h
    refine ⟨_, (pss_cons (ps_set (i := 0) sc__law_names.nd rfl (by first | exact Or.inl rfl | exact Or.inr rfl) (pe_lst (pa_cons pe_str (pa_cons pe_str (pa_cons pe_str (pa_cons pe_str (pa_cons pe_str (pa_cons pe_str (pa_cons pe_str (pa_cons pe_str (pa_cons pe_str (pa_cons pe_str (pa_cons pe_str (pa_cons pe_str (pa_cons pe_str pa_nil)))))))))))))))
      (pss_cons (ps_set (i := 0) sc__law_names.nd rfl (by first | exact Or.inl rfl | exact Or.inr rfl) (pe_op op_cat (pv 0) (pe_lst (pa_cons pe_str (pa_cons pe_str (pa_cons pe_str (pa_cons pe_str (pa_cons pe_str (pa_cons pe_str (pa_cons pe_str (pa_cons pe_str (pa_cons pe_str (pa_cons pe_str (pa_cons pe_str (pa_cons pe_str pa_nil)))))))))))))))
      (pss_cons (ps_set (i := 0) sc__law_names.nd rfl (by first | exact Or.inl rfl | exact Or.inr rfl) (pe_op op_cat (pv 0) (pe_lst (pa_cons pe_str (pa_cons pe_str (pa_cons pe_str (pa_cons pe_str (pa_cons pe_str (pa_cons pe_str pa_nil)))))))))
      (pss_cons (ps_set (i := 1) sc__law_names.nd rfl (by first | exact Or.inl rfl | exact Or.inr rfl) (pe_op op_cat (pe_lc (own := [("word", 2)]) (g := gName 2) (tt := tYes) (by rfl) sc__law_names.nd (pi_list (pv 0)) (blkOk_by (own := [("word", 2)]) (N := ["words", "names", "word"]) (sc := defScope s__law_names) (by decide +kernel)) (fun _ _ _ _ _ => (pg_name (i := 2) sc__law_names.nd rfl (by first | exact Or.inl rfl | exact Or.inr rfl))) (fun _ _ _ _ _ => pts_nil) (fun _ _ _ _ _ => (pe_op op_add_str pe_str (pv 2)))) (pe_lc (own := [("word", 2)]) (g := gName 2) (tt := tYes) (by rfl) sc__law_names.nd (pi_list (pv 0)) (blkOk_by (own := [("word", 2)]) (N := ["words", "names", "word"]) (sc := defScope s__law_names) (by decide +kernel)) (fun _ _ _ _ _ => (pg_name (i := 2) sc__law_names.nd rfl (by first | exact Or.inl rfl | exact Or.inr rfl))) (fun _ _ _ _ _ => pts_nil) (fun _ _ _ _ _ => (pe_op op_add_str pe_str (pv 2))))))
      (pss_one (ps_ret (pe_op op_cat (pv 1) (pe_lst (pa_cons pe_str (pa_cons pe_str (pa_cons pe_str (pa_cons pe_str pa_nil)))))))))))), ?_⟩
    walk_at "go"
    intro p1 h1
    generalize e1 : upd H p1 _ = H1
    obtain ⟨s1, k1⟩ := newE (zs := lw13) h1 e1 rfl
    walk_at "go"
    intro p2 h2
    generalize e2 : upd H1 p2 _ = H2
    obtain ⟨s2, k2⟩ := newE (zs := lw12) h2 e2 rfl
    refine catE (s2 _ _ k1) k2 (by decide) (fun p3 H3 s3 h3 k3 => ?_)
    walk_at "go"
    intro p4 h4
    generalize e4 : upd H3 p4 _ = H4
    obtain ⟨s4, k4⟩ := newE (zs := lw6) h4 e4 rfl
    refine catE (s4 _ _ k3) k4 (by decide) (fun p5 H5 s5 h5 k5 => ?_)
    walk_at "go"
    refine ⟨⟨_, SqL.of k5⟩, fun D6 h6 => ?_⟩
    refine lc_mapS (j := 2) (fun z => ("i32." : Str) ++ z) h6 (SqL.of k5) (by decide) (fun z H2 Q2 hz s2 q2 => ?_) (fun H6 s6 k6 => ?_)
    · have hl : ("i32." : Str).length + z.length ≤ sizeLine := small64 (Nat.le_trans ((show ∀ z ∈ (lw13 ++ lw12 ++ lw6), ("i32." : Str).length + z.length ≤ 1000 by decide +kernel) z hz) (by decide))
      walk_at "go"
      exact q2 _ (Same.refl _)
    walk_at "go"
    refine ⟨⟨_, SqL.of (s6 _ _ k5)⟩, fun D7 h7 => ?_⟩
    refine lc_mapS (j := 2) (fun z => ("i64." : Str) ++ z) h7 (SqL.of (s6 _ _ k5)) (by decide) (fun z H2 Q2 hz s2 q2 => ?_) (fun H7 s7 k7 => ?_)
    · have hl : ("i64." : Str).length + z.length ≤ sizeLine := small64 (Nat.le_trans ((show ∀ z ∈ (lw13 ++ lw12 ++ lw6), ("i64." : Str).length + z.length ≤ 1000 by decide +kernel) z hz) (by decide))
      walk_at "go"
      exact q2 _ (Same.refl _)
    refine catE (s7 _ _ k6) k7 (by decide) (fun p8 H8 s8 h8 k8 => ?_)
    walk_at "go"
    intro p9 h9
    generalize e9 : upd H8 p9 _ = H9
    obtain ⟨s9, k9⟩ := newE (zs := lw4) h9 e9 rfl
    refine catE (s9 _ _ k8) k9 (by decide) (fun p10 H10 s10 h10 k10 => ?_)
    refine q p10 H10 (s1.trans (s2.trans (s3.trans (s4.trans (s5.trans (s6.trans (s7.trans (s8.trans (s9.trans (s10)))))))))) ?_ k10
    exact none_of (s1.trans (s2.trans (s3.trans (s4.trans (s5.trans (s6.trans (s7.trans (s8.trans (s9))))))))) h10
def nm (kd w : Str) : Str := (kd ++ (".": Str)) ++ w
def lw25 : List Str := lw13 ++ lw12
def kds : List Str := ["i32", "i64"]
def RQ (H : Hp) (Q : VK) (ks : List Str) : Prop := ∀ t H', Same H H' → H' t = some (.tup (ks.map V.str)) → Q (.ref t) H'
def ParQ (z : Str) (R : List Str → Prop) (N : Prop) : Prop := (z = "i32.wrap_i64" ∨ z = "i64.extend32_s" → R ["i64"]) ∧ (z = "i64.extend_i32_s" ∨ z = "i64.extend_i32_u" → R ["i32"]) ∧
  (∀ kd ∈ kds, z ∈ lw25.map (nm kd) → R [kd, kd]) ∧ (∀ kd ∈ kds, z ∈ lw6.map (nm kd) → R [kd]) ∧
  (¬ z = "i32.wrap_i64" → ¬ z = "i64.extend32_s" → ¬ z = "i64.extend_i32_s" → ¬ z = "i64.extend_i32_u" → (∀ kd ∈ kds, ¬ z ∈ lw25.map (nm kd)) → (∀ kd ∈ kds, ¬ z ∈ lw6.map (nm kd)) → N)
def sp__law_params (K : PySem.W.Frag) (cs : Cs) : Sp := fun vs H Q _ => ∃ z : Str, vs = [.str z] ∧ z.length ≤ 1000 ∧ ParQ z (RQ H Q) (∀ H', Same H H' → Q .non H')
theorem c__law_params (D : Def K mg "_law_params" s__law_params ["name"]) (T : Tp w K mg cs)  : Cal P w K mg base CX0 1 "_law_params" (sp__law_params K cs) := by
  refine D.ok sc__law_params (fun vs H Q E h => ?_) (fun f cdv A outer s H vs Q E hr h => ?_)
  · obtain ⟨z, rfl, _⟩ := h; rfl
  · obtain ⟨z, rfl, hz, q1, q2, q3, q4, q5⟩ := h
    refine ⟨_, (pss_cons (ps_set (i := 1) sc__law_params.nd rfl (by first | exact Or.inl rfl | exact Or.inr rfl) (pe_lst (pa_cons pe_str (pa_cons pe_str (pa_cons pe_str (pa_cons pe_str (pa_cons pe_str (pa_cons pe_str (pa_cons pe_str (pa_cons pe_str (pa_cons pe_str (pa_cons pe_str (pa_cons pe_str (pa_cons pe_str (pa_cons pe_str pa_nil)))))))))))))))
      (pss_cons (ps_set (i := 1) sc__law_params.nd rfl (by first | exact Or.inl rfl | exact Or.inr rfl) (pe_op op_cat (pv 1) (pe_lst (pa_cons pe_str (pa_cons pe_str (pa_cons pe_str (pa_cons pe_str (pa_cons pe_str (pa_cons pe_str (pa_cons pe_str (pa_cons pe_str (pa_cons pe_str (pa_cons pe_str (pa_cons pe_str (pa_cons pe_str pa_nil)))))))))))))))
      (pss_cons (ps_set (i := 2) sc__law_params.nd rfl (by first | exact Or.inl rfl | exact Or.inr rfl) (pe_lst (pa_cons pe_str (pa_cons pe_str (pa_cons pe_str (pa_cons pe_str (pa_cons pe_str (pa_cons pe_str pa_nil))))))))
      (pss_cons (ps_if (PW.pt (pw_or (pt_cmpR op_eq (pv 0) pe_str (by first | rfl | exact nomark _)) (pw_or1 (pt_cmpR op_eq (pv 0) pe_str (by first | rfl | exact nomark _))))) (pss_one (ps_ret (pe_tup (pa_cons pe_str pa_nil)))) pss_nil)
      (pss_cons (ps_if (PW.pt (pw_or (pt_cmpR op_eq (pv 0) pe_str (by first | rfl | exact nomark _)) (pw_or1 (pt_cmpR op_eq (pv 0) pe_str (by first | rfl | exact nomark _))))) (pss_one (ps_ret (pe_tup (pa_cons pe_str pa_nil)))) pss_nil)
      (pss_cons (ps_for PassesOwn.never rfl (pi_list (pe_lst (pa_cons pe_str (pa_cons pe_str pa_nil)))) (pg_name (i := 3) sc__law_params.nd rfl (by first | exact Or.inl rfl | exact Or.inr rfl)) (pss_cons (ps_for PassesOwn.never rfl (pi_list (pv 1)) (pg_name (i := 4) sc__law_params.nd rfl (by first | exact Or.inl rfl | exact Or.inr rfl)) (pss_one (ps_if (pt_cmpR op_eq (pv 0) (pe_op op_add_str (pe_op op_add_str (pv 3) pe_str) (pv 4)) (by first | rfl | exact nomark _)) (pss_one (ps_ret (pe_tup (pa_cons (pv 3) (pa_cons (pv 3) pa_nil))))) pss_nil)))
      (pss_one (ps_for PassesOwn.never rfl (pi_list (pv 2)) (pg_name (i := 4) sc__law_params.nd rfl (by first | exact Or.inl rfl | exact Or.inr rfl)) (pss_one (ps_if (pt_cmpR op_eq (pv 0) (pe_op op_add_str (pe_op op_add_str (pv 3) pe_str) (pv 4)) (by first | rfl | exact nomark _)) (pss_one (ps_ret (pe_tup (pa_cons (pv 3) pa_nil)))) pss_nil))))))
      (pss_one (ps_ret pe_non)))))))), ?_⟩
    walk_at "go"
    intro p1 h1
    generalize e1 : upd H p1 _ = H1
    obtain ⟨s1, k1⟩ := newE (zs := lw13) h1 e1 rfl
    walk_at "go"
    intro p2 h2
    generalize e2 : upd H1 p2 _ = H2
    obtain ⟨s2, k2⟩ := newE (zs := lw12) h2 e2 rfl
    refine catE (s2 _ _ k1) k2 (by decide) (fun p3 H3 s3 h3 k3 => ?_)
    walk_at "go"
    intro p4 h4
    generalize e4 : upd H3 p4 _ = H4
    obtain ⟨s4, k4⟩ := newE (zs := lw6) h4 e4 rfl
    have k3' := s4 _ _ k3
    have s : Same H H4 := (s1.trans (s2.trans (s3.trans (s4))))
    clear e1 e2 e4 s1 s2 s3 s4 k1 k2 k3 h1 h2 h3 h4
    walk_at "go"
    by_cases c1 : z = "i32.wrap_i64"
    · refine ifS c1 ?_
      walk_at "go"
      intro t ht
      exact q1 (.inl c1) t _ (s.trans (Same.new ht)) upd_same
    refine ifSN c1 ?_
    walk_at "go"
    by_cases c2 : z = "i64.extend32_s"
    · refine ifS c2 ?_
      walk_at "go"
      intro t ht
      exact q1 (.inr c2) t _ (s.trans (Same.new ht)) upd_same
    refine ifSN c2 ?_
    walk_at "go"
    by_cases c3 : z = "i64.extend_i32_s"
    · refine ifS c3 ?_
      walk_at "go"
      intro t ht
      exact q2 (.inl c3) t _ (s.trans (Same.new ht)) upd_same
    refine ifSN c3 ?_
    walk_at "go"
    by_cases c4 : z = "i64.extend_i32_u"
    · refine ifS c4 ?_
      walk_at "go"
      intro t ht
      exact q2 (.inr c4) t _ (s.trans (Same.new ht)) upd_same
    refine ifSN c4 ?_
    walk_at "go"
    intro p5 h5
    refine ⟨p5, rfl, ⟨_, SqL.new⟩, ?_⟩
    refine for_listD (K := K) (a := p5) (xs := kds.map V.str) (fun j σ H5 => Same H4 H5 ∧ H5 p5 = some (.lst (kds.map V.str)) ∧ (∀ kd ∈ kds.take j, ¬ z ∈ lw25.map (nm kd) ∧ ¬ z ∈ lw6.map (nm kd)) ∧ ∃ o3 o4, σ = [some (.str z), some (.ref p3), some (.ref p4), o3, o4]) ⟨Same.new h5, upd_same, (fun _ h => nomatch h), _, _, rfl⟩ (fun j σ H5 _ h => SqL.of h.2.1) ?_ ?_
    · rintro j v _ H5 hj ⟨s5, hW, hno, o3, o4, rfl⟩
      obtain ⟨kd, hkd, rfl⟩ : ∃ kd, kds[j]? = some kd ∧ v = .str kd := by
        rw [List.getElem?_map] at hj
        cases e : kds[j]? with
        | none => rw [e] at hj; cases hj
        | some kd => rw [e] at hj; cases hj; exact ⟨kd, rfl, rfl⟩
      have hkm := List.mem_of_getElem? hkd
      have k35 := s5 _ _ k3'
      have k45 := s5 _ _ k4
      have hl1 : kd.length + ("." : Str).length ≤ sizeLine := small64 (Nat.le_trans ((show ∀ kd ∈ kds, kd.length + ("." : Str).length ≤ 10 by decide +kernel) kd hkm) (by decide))
      have hl25 : ∀ w ∈ lw25, (kd ++ ("." : Str)).length + w.length ≤ sizeLine := fun w hw => small64 (Nat.le_trans ((show ∀ kd ∈ kds, ∀ w ∈ lw25, (kd ++ ("." : Str)).length + w.length ≤ 100 by decide +kernel) kd hkm w hw) (by decide))
      have hl6 : ∀ w ∈ lw6, (kd ++ ("." : Str)).length + w.length ≤ sizeLine := fun w hw => small64 (Nat.le_trans ((show ∀ kd ∈ kds, ∀ w ∈ lw6, (kd ++ ("." : Str)).length + w.length ≤ 100 by decide +kernel) kd hkm w hw) (by decide))
      walk_at "go"
      refine ⟨⟨_, SqL.of k35⟩, ?_⟩
      refine for_listD (K := K) (a := p3) (xs := lw25.map V.str) (fun k σ H6 => H6 = H5 ∧ ¬ z ∈ (lw25.take k).map (nm kd) ∧ ∃ o4, σ = [some (.str z), some (.ref p3), some (.ref p4), some (.str kd), o4]) ⟨rfl, (fun h => nomatch h), _, rfl⟩ (fun k σ H6 _ h => SqL.of (h.1 ▸ k35)) ?_ ?_
      · rintro k v _ H6 hk ⟨rfl, hno1, o4, rfl⟩
        obtain ⟨w, hw, rfl⟩ : ∃ w, lw25[k]? = some w ∧ v = .str w := by
          rw [List.getElem?_map] at hk
          cases e : lw25[k]? with
          | none => rw [e] at hk; cases hk
          | some w => rw [e] at hk; cases hk; exact ⟨w, rfl, rfl⟩
        have hwl := hl25 w (List.mem_of_getElem? hw)
        walk_at "go"
        by_cases c : z = nm kd w
        · refine ifS c ?_
          walk_at "go"
          intro t ht
          exact q3 kd hkm (c ▸ List.mem_map.mpr ⟨w, List.mem_of_getElem? hw, rfl⟩) t _ (s.trans (s5.trans (Same.new ht))) upd_same
        refine ifSN c ?_
        refine ⟨rfl, fun h => ?_, _, rfl⟩
        rw [List.take_add_one, hw, List.map_append] at h
        rcases List.mem_append.mp h with h | h
        · exact hno1 h
        · exact c (List.mem_singleton.mp h)
      rintro _ H6 ⟨rfl, hno1, o4, rfl⟩
      rw [List.length_map, List.take_length] at hno1
      walk_at "go"
      refine ⟨⟨_, SqL.of k45⟩, ?_⟩
      refine for_listD (K := K) (a := p4) (xs := lw6.map V.str) (fun k σ H7 => H7 = H6 ∧ ¬ z ∈ (lw6.take k).map (nm kd) ∧ ∃ o4, σ = [some (.str z), some (.ref p3), some (.ref p4), some (.str kd), o4]) ⟨rfl, (fun h => nomatch h), _, rfl⟩ (fun k σ H6 _ h => SqL.of (h.1 ▸ k45)) ?_ ?_
      · rintro k v _ H7 hk ⟨rfl, hno2, o4, rfl⟩
        obtain ⟨w, hw, rfl⟩ : ∃ w, lw6[k]? = some w ∧ v = .str w := by
          rw [List.getElem?_map] at hk
          cases e : lw6[k]? with
          | none => rw [e] at hk; cases hk
          | some w => rw [e] at hk; cases hk; exact ⟨w, rfl, rfl⟩
        have hwl := hl6 w (List.mem_of_getElem? hw)
        walk_at "go"
        by_cases c : z = nm kd w
        · refine ifS c ?_
          walk_at "go"
          intro t ht
          exact q4 kd hkm (c ▸ List.mem_map.mpr ⟨w, List.mem_of_getElem? hw, rfl⟩) t _ (s.trans (s5.trans (Same.new ht))) upd_same
        refine ifSN c ?_
        refine ⟨rfl, fun h => ?_, _, rfl⟩
        rw [List.take_add_one, hw, List.map_append] at h
        rcases List.mem_append.mp h with h | h
        · exact hno2 h
        · exact c (List.mem_singleton.mp h)
      rintro _ H7 ⟨rfl, hno2, o4, rfl⟩
      rw [List.length_map, List.take_length] at hno2
      refine ⟨s5, hW, fun kd2 h2 => ?_, _, _, rfl⟩
      rw [List.take_add_one, hkd] at h2
      rcases List.mem_append.mp h2 with h2 | h2
      · exact hno _ h2
      · rw [List.mem_singleton.mp h2]; exact ⟨hno1, hno2⟩
    · rintro _ H5 ⟨s5, hW, hno, o3, o4, rfl⟩
      rw [List.length_map, List.take_length] at hno
      exact q5 c1 c2 c3 c4 (fun kd h => (hno kd h).1) (fun kd h => (hno kd h).2) _ (s.trans s5)
def cmpL : List Str := ["eqz", "eq", "ne", "lt_s", "lt_u", "gt_s", "gt_u", "le_s", "le_u", "ge_s", "ge_u"]
def sp__law_results (K : PySem.W.Frag) (cs : Cs) : Sp := fun vs H Q _ => ∃ z : Str, vs = [.str z] ∧ z.length ≤ 1000 ∧ RQ H Q [resS z]
theorem res_in {z : Str} (h : wordOf z ∈ cmpL) : resS z = "i32" := if_pos ((inV_mem _ v_COMPARISONS).mpr h)
theorem res_out {z : Str} (h : ¬ wordOf z ∈ cmpL) : resS z = kindOf z := if_neg (fun e => h ((inV_mem _ v_COMPARISONS).mp e))

theorem call_isX3 {X : Cx} {a D1 D2 D3 : Addr} {oe : Obj} {cls : Value} {d : Option Addr} {pn : List (Addr × Obj)} {x1 x3 : Str} (hz : Zc cls d oe) (hf : ∃ vs, oe.data = .fields vs) (k1 : ExK X.K X.mg x1 D1) (C2 : ExcC X.K D2) (k3 : ExK X.K X.mg x3 D3) : CallR (X.suite a ((a, oe) :: pn)) (.builtin "isinstance")
    (fun xs H Q => (∃ (c : V) (cv : Value) (b : Bool) (dd : Addr) (fs : List (Str × V)), xs = [.ref a, c] ∧ cls = .ref D1 ∧ d = some dd ∧ H dd = some (.xd fs) ∧ RelV c cv ∧ (∀ u, RelV c u → u = cv) ∧ PySem.W.kitOne X.K (.ref D1) cv = some b ∧ Q (.bl b) H) ∨
      (∃ (c : V) (cv : Value) (b : Bool), xs = [.ref a, c] ∧ cls = .ref D2 ∧ d = none ∧ (∀ u, RelV c u → u = cv) ∧ PySem.W.kitOne X.K (.ref D2) cv = some b ∧ Q (.bl b) H) ∨
      (∃ (c : V) (cv : Value) (b : Bool) (dd : Addr) (fs : List (Str × V)), xs = [.ref a, c] ∧ cls = .ref D3 ∧ d = some dd ∧ H dd = some (.xd fs) ∧ RelV c cv ∧ (∀ u, RelV c u → u = cv) ∧ PySem.W.kitOne X.K (.ref D3) cv = some b ∧ Q (.bl b) H)) := by
  intro pins s σ H xs us Q I r h
  rcases h with h | h | h
  · exact call_isX hz hf k1 pins s σ H xs us Q I r h
  · exact call_isX0 hz hf C2 pins s σ H xs us Q I r h
  · exact call_isX hz hf k3 pins s σ H xs us Q I r h
theorem names_perm : v_INSTRUCTIONS.Perm namesL := by decide +kernel
theorem known_iff (z : Str) : Known z = true ↔ z ∈ namesL := by
  unfold Known
  rw [inV_mem]
  exact names_perm.mem_iff
def pr2 (kd : Str) : Bool := (lw25.map (nm kd)).all fun z => Known z && decide (kindsS z = [kd, kd])
def pr1 (kd : Str) : Bool := (lw6.map (nm kd)).all fun z => Known z && decide (kindsS z = [kd])
theorem pr2_ok : pr2 "i32" = true ∧ pr2 "i64" = true ∧ pr1 "i32" = true ∧ pr1 "i64" = true := by decide +kernel
theorem kds_mem {kd : Str} (h : kd ∈ kds) : kd = "i32" ∨ kd = "i64" := by
  rcases List.mem_cons.mp h with h | h
  · exact .inl h
  · exact .inr (List.mem_singleton.mp h)
theorem pr4_ok : (Known "i32.wrap_i64" = true ∧ kindsS "i32.wrap_i64" = [("i64" : Str)]) ∧ (Known "i64.extend32_s" = true ∧ kindsS "i64.extend32_s" = [("i64" : Str)]) ∧ (Known "i64.extend_i32_s" = true ∧ kindsS "i64.extend_i32_s" = [("i32" : Str)]) ∧ (Known "i64.extend_i32_u" = true ∧ kindsS "i64.extend_i32_u" = [("i32" : Str)]) := by decide +kernel
theorem names_in : namesL.all (fun z => decide (z = "i32.wrap_i64") || decide (z = "i64.extend32_s") || decide (z = "i64.extend_i32_s") || decide (z = "i64.extend_i32_u") || kds.any fun kd => decide (z ∈ lw25.map (nm kd)) || decide (z ∈ lw6.map (nm kd))) = true := by decide +kernel
theorem par_of {z : Str} {R : List Str → Prop} {N : Prop} (h1 : Known z = true → R (kindsS z)) (h2 : Known z = false → N) : ParQ z R N := by
  have two : ∀ kd ∈ kds, z ∈ lw25.map (nm kd) → R [kd, kd] := fun kd hkd hz => by
    have hp : pr2 kd = true := by rcases kds_mem hkd with rfl | rfl; exact pr2_ok.1; exact pr2_ok.2.1
    have := List.all_eq_true.mp hp z hz
    rw [Bool.and_eq_true] at this
    rw [← of_decide_eq_true this.2]; exact h1 this.1
  have one : ∀ kd ∈ kds, z ∈ lw6.map (nm kd) → R [kd] := fun kd hkd hz => by
    have hp : pr1 kd = true := by rcases kds_mem hkd with rfl | rfl; exact pr2_ok.2.2.1; exact pr2_ok.2.2.2
    have := List.all_eq_true.mp hp z hz
    rw [Bool.and_eq_true] at this
    rw [← of_decide_eq_true this.2]; exact h1 this.1
  refine ⟨?_, ?_, two, one, fun n1 n2 n3 n4 n5 n6 => h2 (Bool.eq_false_iff.mpr fun hk => ?_)⟩
  · rintro (rfl | rfl)
    · rw [← pr4_ok.1.2]; exact h1 pr4_ok.1.1
    · rw [← pr4_ok.2.1.2]; exact h1 pr4_ok.2.1.1
  · rintro (rfl | rfl)
    · rw [← pr4_ok.2.2.1.2]; exact h1 pr4_ok.2.2.1.1
    · rw [← pr4_ok.2.2.2.2]; exact h1 pr4_ok.2.2.2.1
  · have hz := List.all_eq_true.mp names_in z ((known_iff z).mp hk)
    simp only [Bool.or_eq_true, decide_eq_true_eq, List.any_eq_true] at hz
    rcases hz with (((h | h) | h) | h) | ⟨kd, hkd, h | h⟩
    · exact n1 h
    · exact n2 h
    · exact n3 h
    · exact n4 h
    · exact n5 kd hkd h
    · exact n6 kd hkd h
def K2 (k : Str) : Prop := k = "i32" ∨ k = "i64"
theorem kinds_K2 {z : Str} (h : Known z = true) : (∀ k ∈ kindsS z, K2 k) ∧ (kindsS z).length ≤ 2 ∧ 1 ≤ (kindsS z).length := by
  have hb : namesL.all (fun z => (kindsS z).all (fun k => decide (k = "i32") || decide (k = "i64")) && decide ((kindsS z).length ≤ 2) && decide (1 ≤ (kindsS z).length)) = true := by decide +kernel
  have := List.all_eq_true.mp hb z ((known_iff z).mp h)
  rw [Bool.and_eq_true, Bool.and_eq_true] at this
  refine ⟨fun k hk => ?_, of_decide_eq_true this.1.2, of_decide_eq_true this.2⟩
  have := List.all_eq_true.mp this.1.1 k hk
  rw [Bool.or_eq_true, decide_eq_true_eq, decide_eq_true_eq] at this
  exact this
theorem k2_len {k : Str} (h : K2 k) : k.length ≤ 1000000 := by rcases h with rfl | rfl <;> decide +kernel
theorem k2_cut {k : Str} (h : K2 k) : (cutS k (some 1) none).length ≤ 640 := by rcases h with rfl | rfl <;> decide +kernel
theorem bits_of {k : Str} (h : K2 k) : ∃ b : Nat, b = widN k ∧ PySem.intText? (cutS k (some 1) none) = some (b : Int) := by
  refine ⟨_, rfl, ?_⟩
  rcases h with rfl | rfl <;> decide +kernel
theorem forms_len (kd wd : Str) (ns : List Int) : (formsOf kd wd ns).length = ns.length := by unfold formsOf; split; rw [List.length_map]; rfl
theorem look_ok : namesL.all (fun z => if isOne z = true then (look tab1 (wordOf z)).isSome else (look tab2 (wordOf z)).isSome) = true := by decide +kernel
theorem calc_some {z : Str} {ns : List Int} (hk : Known z = true) (hf : Fit z ns) : ∃ g, calcN z ns = some g := by
  have h := List.all_eq_true.mp look_ok z ((known_iff z).mp hk)
  have hl := hf.1
  rw [kindsV_eq, List.length_map] at hl
  have h2 := forms_len (takenS z) (wordOf z) ns
  unfold calcN
  unfold kindsS at hl
  cases hO : isOne z with
  | true =>
    rw [hO, if_pos rfl] at h
    rw [hO, if_pos rfl] at hl
    rcases hfs : formsOf (takenS z) (wordOf z) ns with _ | ⟨x, _ | ⟨y, r⟩⟩
    · rw [hfs] at h2; simp at h2 hl; omega
    · obtain ⟨g, hg⟩ := Option.isSome_iff_exists.mp h
      exact ⟨_, by rw [hg]; rfl⟩
    · rw [hfs] at h2; simp at h2 hl; omega
  | false =>
    rw [hO, if_neg (by decide)] at h
    rw [hO, if_neg (by decide)] at hl
    rcases hfs : formsOf (takenS z) (wordOf z) ns with _ | ⟨x, _ | ⟨y, _ | ⟨u, r⟩⟩⟩
    · rw [hfs] at h2; simp at h2 hl; omega
    · rw [hfs] at h2; simp at h2 hl; omega
    · obtain ⟨g, hg⟩ := Option.isSome_iff_exists.mp h
      exact ⟨_, by rw [hg]; rfl⟩
    · rw [hfs] at h2; simp at h2 hl; omega
def inTxt (w z : Str) : Bool := !(Builtin.Str.occurrences z w 0 z.length 1).isEmpty
def trapW : List Str := ["div_s", "div_u", "rem_s", "rem_u"]
theorem tab1_ok : ∀ p ∈ tab1, ∀ b x m, p.2 b x ≠ .error m := by
  intro p hp b x m h
  simp only [tab1, List.mem_cons, List.not_mem_nil, or_false] at hp
  rcases hp with rfl | rfl | rfl | rfl | rfl | rfl | rfl | rfl | rfl | rfl <;> cases h
theorem tab2_ok : ∀ p ∈ tab2, ∀ b x y m, p.2 b x y = .error m → p.1 ∈ trapW := by
  intro p hp b x y m h
  simp only [tab2, List.mem_cons, List.not_mem_nil, or_false] at hp
  rcases hp with rfl | rfl | rfl | rfl | rfl | rfl | rfl | rfl | rfl | rfl | rfl | rfl | rfl | rfl | rfl | rfl | rfl | rfl | rfl | rfl | rfl | rfl | rfl | rfl | rfl <;> first | (cases h; done) | (show _ ∈ trapW; decide +kernel)
theorem trap_in : namesL.all (fun z => !(decide (wordOf z ∈ trapW)) || (inTxt ".div" z || inTxt ".rem" z)) = true := by decide +kernel
theorem trap_word {z : Str} {ns : List Int} {m : Str} (hk : Known z = true) (h : calcN z ns = some (.error m)) : (inTxt ".div" z || inTxt ".rem" z) = true := by
  have key : wordOf z ∈ trapW := by
    unfold calcN at h
    split at h
    · obtain ⟨g, hg, he⟩ := Option.map_eq_some_iff.mp h
      exfalso
      cases hgx : g (widN (takenS z)) _ with
      | error m' => exact tab1_ok _ (look_mem hg) _ _ _ hgx
      | ok r => rw [hgx] at he; cases he
    · obtain ⟨g, hg, he⟩ := Option.map_eq_some_iff.mp h
      cases hgx : g (widN (takenS z)) _ _ with
      | error m' => exact tab2_ok _ (look_mem hg) _ _ _ _ hgx
      | ok r => rw [hgx] at he; cases he
    · cases h
  have := List.all_eq_true.mp trap_in z ((known_iff z).mp hk)
  rw [decide_eq_true key] at this
  simpa using this
theorem names_short : ∀ z ∈ namesL, z.length ≤ 30 := by decide +kernel
theorem names_len : namesL.length = 66 := by decide +kernel
theorem k3_lit : ∀ k ∈ ([("i32" : Str), "i64", "i32"] : List Str), K2 k := by
  intro k hk
  simp only [List.mem_cons, List.not_mem_nil, or_false] at hk
  rcases hk with rfl | rfl | rfl
  · exact .inl rfl
  · exact .inr rfl
  · exact .inl rfl
theorem at_strN {zs : List Str} {k : Nat} (h : k < zs.length) : atI (zs.map V.str) (k : Int) = some (.str (zs.getD k "")) := atI_nat (by
  rw [List.getElem?_map, List.getElem?_eq_getElem h, List.getD_eq_getElem?_getD, List.getElem?_eq_getElem h]; rfl)
theorem getD_mem {zs : List Str} {k : Nat} (h : k < zs.length) : zs.getD k "" ∈ zs := by
  rw [List.getD_eq_getElem?_getD, List.getElem?_eq_getElem h]; exact List.getElem_mem h
theorem dp_b3 {K : PySem.W.Frag} {H : Hp} {a : Addr} {x y z : Bool} (h : H a = some (.lst [.bl x, .bl y, .bl z])) : Dp K H (.ref a) (.list [.bool x, .bool y, .bool z]) := .lst (SqL.of h) (.cons (.bl _) (.cons (.bl _) (.cons (.bl _) .nil)))
theorem sh_b3 (x y z : Bool) : SeqAt.shaped (.list [.bool x, .bool y, .bool z]) = true := by
  unfold SeqAt.shaped; simp [PyData.canLay0, PyData.canLayAll0, PyData.depth, PyData.depthAll]
theorem eqD_b3 {K : PySem.W.Frag} {H : Hp} {a b : Addr} {x y z u v w : Bool} {Q : VK} (ha : H a = some (.lst [.bl x, .bl y, .bl z])) (hb : H b = some (.lst [.bl u, .bl v, .bl w])) (q : Q (.bl (decide ((x, y, z) = (u, v, w)))) H) : rEqD K (.ref a) (.ref b) H Q :=
  ⟨_, _, dp_b3 ha, dp_b3 hb, sh_b3 _ _ _, sh_b3 _ _ _, by
    have e : PyData.eqv (.list [.bool x, .bool y, .bool z]) (.list [.bool u, .bool v, .bool w]) = decide ((x, y, z) = (u, v, w)) := by
      revert x y z u v w; intro x y z u v w; cases x <;> cases y <;> cases z <;> cases u <;> cases v <;> cases w <;> simp [PyData.eqv, PyData.eqvAll]
    rw [e]; exact q⟩
def sp__law_operand (K : PySem.W.Frag) (cs : Cs) : Sp := fun vs H Q E => ∃ (c : Int) (kd : Str), vs = [.int c, .str kd] ∧ K2 kd ∧ ∀ v H', Same H H' → Q (.int v) H'
def sp__law_fits (K : PySem.W.Frag) (cs : Cs) : Sp := fun vs H Q E => ∃ (a b : Addr) (ns : List Int) (ks : List Str), vs = [.ref a, .ref b] ∧ SqT K H a (ns.map V.int) ∧ SqT K H b (ks.map V.str) ∧ (∀ k ∈ ks, K2 k) ∧ ks.length ≤ 2 ∧ Q (.bl (inRB ks ns)) H
def sp__law_class (K : PySem.W.Frag) (cs : Cs) : Sp := fun vs H Q E => ∃ (z : Str) (a : Addr) (ns : List Int), vs = [.str z, .ref a] ∧ z.length ≤ 1000 ∧ SqT K H a (ns.map V.int) ∧ ns.length ≤ 1000 ∧
  (Known z = false → ∀ H', Same H H' → Q (.str "unknown") H') ∧ (Known z = true → inRB (kindsS z) ns = false → ∀ H', Same H H' → Q (.str "bad") H') ∧ (Known z = true → inRB (kindsS z) ns = true → ∀ H', Same H H' → Q (.str "fine") H')
theorem c__law_operand (D : Def K mg "_law_operand" s__law_operand ["cell", "kind"]) (T : Tp w K mg cs) (c__law_value : Cal P w K mg base CX0 2 "_law_value" (sp__law_value K cs)) : Cal P w K mg base CX0 3 "_law_operand" (sp__law_operand K cs) := by
  refine D.ok sc__law_operand (fun vs H Q E h => ?_) (fun f cdv A outer s H vs Q E hr h => ?_)
  · obtain ⟨c, kd, rfl, _⟩ := h; rfl
  · obtain ⟨c, kd, rfl, hk, q⟩ := h
    refine ⟨_, (pss_cons (ps_set (i := 2) sc__law_operand.nd rfl (by first | exact Or.inl rfl | exact Or.inr rfl) (pe_callTy call_int_str (by rfl) T.m_int (by decide +kernel) (pa_cons (pe_slice sl_str (pv 1) (po_some pe_int) po_none) pa_nil)))
      (pss_cons (ps_if (pt_cmpR op_eq (pe_op op_mod (pe_callTy call_int1 (by rfl) T.m_int (by decide +kernel) (pa_cons (pv 0) pa_nil)) pe_int) pe_int (by first | rfl | exact nomark _)) (pss_one (ps_ret pe_int)) pss_nil)
      (pss_cons (ps_if (pt_cmpR op_eq (pe_op op_mod (pe_callTy call_int1 (by rfl) T.m_int (by decide +kernel) (pa_cons (pv 0) pa_nil)) pe_int) pe_int (by first | rfl | exact nomark _)) (pss_one (ps_ret (pe_op op_add (pe_op op_shl1 pe_int (pe_op op_sub (pv 2) pe_int)) (pe_callB (call_max2 rfl) (by rfl) T.m_max (by decide +kernel) (pa_cons pe_int (pa_cons (pe_op op_fdiv (pv 0) pe_int) pa_nil)))))) pss_nil)
      (pss_cons (ps_if (pt_cmpR op_eq (pe_op op_mod (pe_callTy call_int1 (by rfl) T.m_int (by decide +kernel) (pa_cons (pv 0) pa_nil)) pe_int) pe_int (by first | rfl | exact nomark _)) (pss_one (ps_ret (pe_op op_sub (pe_op op_sub (pe_un un_neg (pe_op op_shl1 pe_int (pe_op op_sub (pv 2) pe_int))) pe_int) (pe_callB (call_max2 rfl) (by rfl) T.m_max (by decide +kernel) (pa_cons pe_int (pa_cons (pe_op op_fdiv (pv 0) pe_int) pa_nil)))))) pss_nil)
      (pss_one (ps_ret (pe_c c__law_value hr (by decide) (by rfl) (pa_cons (pe_op op_fdiv (pv 0) pe_int) (pa_cons (pv 2) pa_nil))))))))), ?_⟩
    obtain ⟨b, hb, et⟩ := bits_of hk
    have hw : b = 32 ∨ b = 64 := by rw [hb]; exact widN_or kd
    walk_at "go"
    refine ⟨small64 (k2_len hk), ?_⟩
    refine ⟨_, (b : Int), rfl, et, k2_cut hk, ?_⟩
    walk_at "go"
    refine ite2 (fun _ => ?_) (fun _ => ?_)
    · walk_at "go"
      exact q _ _ (Same.refl _)
    walk_at "go"
    refine ite2 (fun _ => ?_) (fun _ => ?_)
    · walk_at "go"
      exact q _ _ (Same.refl _)
    walk_at "go"
    refine ite2 (fun _ => ?_) (fun _ => ?_)
    · walk_at "go"
      exact q _ _ (Same.refl _)
    walk_at "go"
    exact fun v H' _ s' => q v H' s'
theorem c__law_fits (D : Def K mg "_law_fits" s__law_fits ["operands", "params"]) (T : Tp w K mg cs) (c__law_signed : Cal P w K mg base CX0 1 "_law_signed" (sp__law_signed K cs)) : Cal P w K mg base CX0 2 "_law_fits" (sp__law_fits K cs) := by
  refine D.ok sc__law_fits (fun vs H Q E h => ?_) (fun f cdv A outer s H vs Q E hr h => ?_)
  · obtain ⟨a, b, ns, ks, rfl, _⟩ := h; rfl
  · obtain ⟨a, b, ns, ks, rfl, ha, hb, hk, hkl, q⟩ := h
    refine ⟨_, (pss_cons (ps_if (pt_cmpR op_ne (pe_callB call_len_seq (by rfl) T.m_len PySem.boot_len (pa_cons (pv 0) pa_nil)) (pe_callB call_len_seq (by rfl) T.m_len PySem.boot_len (pa_cons (pv 1) pa_nil)) (by first | rfl | exact nomark _)) (pss_one (ps_ret pe_bl)) pss_nil)
      (pss_cons (ps_for PassesOwn.never rfl (pi_range1 (by rfl) T.m_range (pa_cons (pe_callB call_len_seq (by rfl) T.m_len PySem.boot_len (pa_cons (pv 1) pa_nil)) pa_nil)) (pg_name (i := 2) sc__law_fits.nd rfl (by first | exact Or.inl rfl | exact Or.inr rfl)) (pss_one (ps_if (pt_cmpR op_ne (pe_ix ix_tup (pv 0) (pv 2) (fun _ _ => rfl)) (pe_c c__law_signed hr (by decide) (by rfl) (pa_cons (pe_ix ix_tup (pv 0) (pv 2) (fun _ _ => rfl)) (pa_cons (pe_callTy call_int_str (by rfl) T.m_int (by decide +kernel) (pa_cons (pe_slice sl_str (pe_ix ix_tup (pv 1) (pv 2) (fun _ _ => rfl)) (po_some pe_int) po_none) pa_nil)) pa_nil))) (by first | rfl | exact nomark _)) (pss_one (ps_ret pe_bl)) pss_nil)))
      (pss_one (ps_ret pe_bl)))), ?_⟩
    walk_at "go"
    simp only [List.length_map]
    refine ite2 (fun c => ?_) (fun c => ?_)
    · have c' : ¬ ks.length = ns.length := fun z => ne_of_nd c (congrArg Int.ofNat z.symm)
      have e : inRB ks ns = false := by unfold inRB; rw [decide_eq_false c']; rfl
      rw [e] at q
      walk_at "go"
      exact q
    have hl : ks.length = ns.length := (Int.ofNat.inj (eq_of_nd c)).symm
    have eB : inRB ks ns = aF ks ns ks.length := by unfold inRB; rw [decide_eq_true hl]; rfl
    rw [eB] at q
    iterate 4 walk_at "go1"
    simp only [List.length_map, Int.toNat_natCast]
    refine ⟨by omega, for_rangeD (lo := 0) (n := ks.length) (fun i σ H2 => H = H2 ∧ aF ks ns i = true ∧ ∃ o, σ = [some (.ref a), some (.ref b), o]) ⟨rfl, rfl, _, rfl⟩ ?_ ?_⟩
    · rintro i _ _ hi ⟨rfl, hF, o, rfl⟩
      have eK : atI (ks.map V.str) (i : Int) = some (.str (ks.getD i "")) := atI_nat (by
        rw [List.getElem?_map, List.getElem?_eq_getElem hi, List.getD_eq_getElem?_getD, List.getElem?_eq_getElem hi]; rfl)
      have hk1 : K2 (ks.getD i "") := hk _ (by rw [List.getD_eq_getElem?_getD, List.getElem?_eq_getElem hi]; exact List.getElem_mem _)
      obtain ⟨bt, hbt, et⟩ := bits_of hk1
      have hw : bt = 32 ∨ bt = 64 := by rw [hbt]; exact widN_or _
      rw [Int.zero_add]
      walk_at "go"
      refine ⟨_, _, _, _, rfl, rfl, hb, eK, ?_⟩
      walk_at "go"
      refine ⟨small64 (k2_len hk1), ?_⟩
      refine ⟨_, (bt : Int), rfl, et, k2_cut hk1, ?_⟩
      refine ⟨ns.getD i 0, bt, rfl, by omega, by omega, ?_⟩
      walk_at "go"
      refine ite2 (fun c => ?_) (fun c => ?_)
      · have f : fit1 (ks.getD i "") (ns.getD i 0) = false := by
          unfold fit1
          rw [← hbt]
          exact decide_eq_false (fun z => ne_of_nd c z.symm)
        rw [aF_false (n := ks.length) hi f] at q
        walk_at "go"
        exact q
      · have f : fit1 (ks.getD i "") (ns.getD i 0) = true := by
          unfold fit1
          rw [← hbt]
          exact decide_eq_true (eq_of_nd c).symm
        exact ⟨rfl, by rw [aF_succ, hF, f]; rfl, _, rfl⟩
    rintro _ _ ⟨rfl, hF, o, rfl⟩
    rw [hF] at q
    walk_at "go"
    exact q
theorem c__law_class (D : Def K mg "_law_class" s__law_class ["name", "operands"]) (T : Tp w K mg cs) (c__law_is_integer : Cal P w K mg base CX0 1 "_law_is_integer" (sp__law_is_integer K cs)) (c_calculate : Cal P w K mg base (L2.CX P w) 5 "calculate" (sp_calculate K cs)) : Cal P w K mg base CX0 6 "_law_class" (sp__law_class K cs) := by
  refine D.ok sc__law_class (fun vs H Q E h => ?_) (fun f cdv A outer s H vs Q E hr h => ?_)
  · obtain ⟨z, a, ns, rfl, _⟩ := h; rfl
  · obtain ⟨z, a, ns, rfl, hz, ha, hn, q1, q2, q3⟩ := h
    refine ⟨_, (pss_cons (ps_try_as (i := 3) (tb := _) (ts := _) (Wout := fun _ _ _ _ => False) rfl rfl sc__law_class.nd rfl rfl ⟨rfl, by decide, .inl T.g_HostError⟩ takes0 (fun W pn xe tk po => (pss_one (ps_set (i := 2) sc__law_class.nd rfl (by first | exact Or.inl rfl | exact Or.inr rfl) (pe_cS c_calculate hr (by decide) (by rfl) (fun σ => passAt tk σ) (pa_cons (pv 0) (pa_cons (pv 1) pa_nil)))))) (fun a oe cls d pn hz hf => (pss_cons (ps_set (i := 4) sc__law_class.nd rfl (by first | exact Or.inl rfl | exact Or.inr rfl) (pe_lst (pa_cons (pe_callB (call_isX3 hz hf T.e_UnknownInstruction T.E0_BadValues T.e_Trap) (by rfl) T.m_isinstance (by decide +kernel) (pa_cons (pv 3) (pa_cons (pe_glob (v := .ref cs.C_UnknownInstruction) (by rfl) T.g_UnknownInstruction rfl) pa_nil))) (pa_cons (pe_callB (call_isX3 hz hf T.e_UnknownInstruction T.E0_BadValues T.e_Trap) (by rfl) T.m_isinstance (by decide +kernel) (pa_cons (pv 3) (pa_cons (pe_glob (v := .ref cs.C_BadValues) (by rfl) T.g_BadValues rfl) pa_nil))) (pa_cons (pe_callB (call_isX3 hz hf T.e_UnknownInstruction T.E0_BadValues T.e_Trap) (by rfl) T.m_isinstance (by decide +kernel) (pa_cons (pv 3) (pa_cons (pe_glob (v := .ref cs.C_Trap) (by rfl) T.g_Trap rfl) pa_nil))) pa_nil)))))
      (pss_cons (ps_if (PW.pt (pw_and (pt_cmpR (op_eqDS (hu64 hr)) (pv 4) (pe_lst (pa_cons pe_bl (pa_cons pe_bl (pa_cons pe_bl pa_nil)))) (by first | rfl | exact nomark _)) (pw_and (pt_val (pe_callB call_isiS (by rfl) T.m_isinstance (by decide +kernel) (pa_cons (pe_xf T.e_UnknownInstruction.xf T.no_UnknownInstruction_name hz hf (pv 3)) (pa_cons (pe_bltn (v := .ty "str") (u := .type "str") (by rfl) T.m_str (by decide +kernel) rfl) pa_nil)))) (pw_and1 (pt_cmpR op_eq (pe_xf T.e_UnknownInstruction.xf T.no_UnknownInstruction_name hz hf (pv 3)) (pv 0) (by first | rfl | exact nomark _)))))) (pss_one (ps_ret pe_str)) pss_nil)
      (pss_cons (ps_if (pt_cmpR (op_eqDS (hu64 hr)) (pv 4) (pe_lst (pa_cons pe_bl (pa_cons pe_bl (pa_cons pe_bl pa_nil)))) (by first | rfl | exact nomark _)) (pss_one (ps_ret pe_str)) pss_nil)
      (pss_cons (ps_if (PW.pt (pw_and (pt_cmpR (op_eqDS (hu64 hr)) (pv 4) (pe_lst (pa_cons pe_bl (pa_cons pe_bl (pa_cons pe_bl pa_nil)))) (by first | rfl | exact nomark _)) (pw_and1 (PW.pt (pw_or (pt_cmpR op_in_str pe_str (pv 0) (by first | rfl | exact nomark _)) (pw_or1 (pt_cmpR op_in_str pe_str (pv 0) (by first | rfl | exact nomark _)))))))) (pss_one (ps_ret pe_str)) pss_nil)
      (pss_one (ps_ret pe_str))))))))
      (pss_cons (ps_if (pt_val (pe_c c__law_is_integer hr (by decide) (by rfl) (pa_cons (pv 2) pa_nil))) (pss_one (ps_ret pe_str)) pss_nil)
      (pss_one (ps_ret pe_str)))), ?_⟩
    walk_at "go"
    refine ⟨z, a, ns, rfl, small64 (by omega), ha, hn, fun hk => ?_, fun hk hin H1 s1 => ?_, fun hk hin => ?_⟩
    · intro d Hf s1 hd
      refine ⟨true, T.exm_UnknownInstruction_HostError, fun _ ea hea => ?_, fun z => Bool.noConfusion z⟩
      walk_at "go"
      refine .inl ⟨_, _, true, d, _, rfl, rfl, rfl, hd, rfl, fun u hu => hu, T.kit_UnknownInstruction_UnknownInstruction, ?_⟩
      walk_at "go"
      refine .inl ⟨_, _, false, d, _, rfl, rfl, rfl, hd, rfl, fun u hu => hu, T.kit_UnknownInstruction_BadValues, ?_⟩
      walk_at "go"
      refine .inl ⟨_, _, false, d, _, rfl, rfl, rfl, hd, rfl, fun u hu => hu, T.kit_UnknownInstruction_Trap, ?_⟩
      walk_at "go"
      intro l1 h1
      generalize x1 : upd Hf l1 _ = H2
      obtain ⟨s2, k2⟩ : Same Hf H2 ∧ H2 l1 = some (.lst [.bl true, .bl false, .bl false]) := by subst x1; exact ⟨Same.new h1, upd_same⟩
      walk_at "go"
      intro l2 h2
      generalize x2 : upd H2 l2 _ = H3
      obtain ⟨s3, k3⟩ : Same H2 H3 ∧ H3 l2 = some (.lst [.bl true, .bl false, .bl false]) := by subst x2; exact ⟨Same.new h2, upd_same⟩
      refine eqD_b3 (s3 _ _ k2) k3 ?_
      rw [decide_eq_true rfl]
      have hd3 := s3 _ _ (s2 _ _ hd)
      walk_at "go"
      refine ⟨d, _, _, rfl, hd3, rfl, ?_⟩
      walk_at "go"
      refine ⟨d, _, _, rfl, hd3, rfl, ?_⟩
      walk_at "go"
      refine ifS rfl ?_
      walk_at "go"
      exact q1 hk _ (s1.trans (s2.trans s3))
    · refine ⟨true, T.exm_BadValues_HostError, fun _ ea hea => ?_, fun z => Bool.noConfusion z⟩
      walk_at "go"
      refine .inr (.inl ⟨_, _, false, rfl, rfl, rfl, fun u hu => hu, T.kit_BadValues_UnknownInstruction, ?_⟩)
      walk_at "go"
      refine .inr (.inl ⟨_, _, true, rfl, rfl, rfl, fun u hu => hu, T.kit_BadValues_BadValues, ?_⟩)
      walk_at "go"
      refine .inr (.inl ⟨_, _, false, rfl, rfl, rfl, fun u hu => hu, T.kit_BadValues_Trap, ?_⟩)
      walk_at "go"
      intro l1 h1
      generalize x1 : upd H1 l1 _ = H2
      obtain ⟨s2, k2⟩ : Same H1 H2 ∧ H2 l1 = some (.lst [.bl false, .bl true, .bl false]) := by subst x1; exact ⟨Same.new h1, upd_same⟩
      walk_at "go"
      intro l2 h2
      generalize x2 : upd H2 l2 _ = H3
      obtain ⟨s3, k3⟩ : Same H2 H3 ∧ H3 l2 = some (.lst [.bl true, .bl false, .bl false]) := by subst x2; exact ⟨Same.new h2, upd_same⟩
      refine eqD_b3 (s3 _ _ k2) k3 ?_
      rw [decide_eq_false (by decide)]
      walk_at "go"
      intro l3 h3
      generalize x3 : upd H3 l3 _ = H4
      obtain ⟨s4, k4⟩ : Same H3 H4 ∧ H4 l3 = some (.lst [.bl false, .bl true, .bl false]) := by subst x3; exact ⟨Same.new h3, upd_same⟩
      refine eqD_b3 (s4 _ _ (s3 _ _ k2)) k4 ?_
      rw [decide_eq_true rfl]
      walk_at "go"
      exact q2 hk hin _ (s1.trans (s2.trans (s3.trans s4)))
    · obtain ⟨g, hg⟩ := calc_some hk (fit_of hin)
      refine ⟨g, hg, fun r hr H1 s1 => ?_, fun m hm => ?_⟩
      · walk_at "go"
        exact q3 hk hin _ s1
      · rw [hm] at hg
        have htw := trap_word hk hg
        intro d Hf s1 hd
        refine ⟨true, T.exm_Trap_HostError, fun _ ea hea => ?_, fun z => Bool.noConfusion z⟩
        walk_at "go"
        refine .inr (.inr ⟨_, _, false, d, _, rfl, rfl, rfl, hd, rfl, fun u hu => hu, T.kit_Trap_UnknownInstruction, ?_⟩)
        walk_at "go"
        refine .inr (.inr ⟨_, _, false, d, _, rfl, rfl, rfl, hd, rfl, fun u hu => hu, T.kit_Trap_BadValues, ?_⟩)
        walk_at "go"
        refine .inr (.inr ⟨_, _, true, d, _, rfl, rfl, rfl, hd, rfl, fun u hu => hu, T.kit_Trap_Trap, ?_⟩)
        walk_at "go"
        intro l1 h1
        generalize x1 : upd Hf l1 _ = H2
        obtain ⟨s2, k2⟩ : Same Hf H2 ∧ H2 l1 = some (.lst [.bl false, .bl false, .bl true]) := by subst x1; exact ⟨Same.new h1, upd_same⟩
        walk_at "go"
        intro l2 h2
        generalize x2 : upd H2 l2 _ = H3
        obtain ⟨s3, k3⟩ : Same H2 H3 ∧ H3 l2 = some (.lst [.bl true, .bl false, .bl false]) := by subst x2; exact ⟨Same.new h2, upd_same⟩
        refine eqD_b3 (s3 _ _ k2) k3 ?_
        rw [decide_eq_false (by decide)]
        walk_at "go"
        intro l3 h3
        generalize x3 : upd H3 l3 _ = H4
        obtain ⟨s4, k4⟩ : Same H3 H4 ∧ H4 l3 = some (.lst [.bl false, .bl true, .bl false]) := by subst x3; exact ⟨Same.new h3, upd_same⟩
        refine eqD_b3 (s4 _ _ (s3 _ _ k2)) k4 ?_
        rw [decide_eq_false (by decide)]
        walk_at "go"
        intro l4 h4
        generalize x4 : upd H4 l4 _ = H5
        obtain ⟨s5, k5⟩ : Same H4 H5 ∧ H5 l4 = some (.lst [.bl false, .bl false, .bl true]) := by subst x4; exact ⟨Same.new h4, upd_same⟩
        refine eqD_b3 (s5 _ _ (s4 _ _ (s3 _ _ k2))) k5 ?_
        rw [decide_eq_true rfl]
        have s15 := s1.trans (s2.trans (s3.trans (s4.trans s5)))
        walk_at "go"
        cases hdv : inTxt ".div" z with
        | true =>
          rw [show (!(Builtin.Str.occurrences z ".div" 0 z.length 1).isEmpty) = true from hdv]
          walk_at "go"
          exact q3 hk hin _ s15
        | false =>
          rw [hdv, Bool.false_or] at htw
          rw [show (!(Builtin.Str.occurrences z ".div" 0 z.length 1).isEmpty) = false from hdv]
          walk_at "go"
          rw [show (!(Builtin.Str.occurrences z ".rem" 0 z.length 1).isEmpty) = true from htw]
          walk_at "go"
          exact q3 hk hin _ s15
theorem c_law {f : Addr} {fd : FuncData} (D : L2.Fun K "law" "law" s_law f fd) (T : Tp w K mg cs) (c__law_names : Cal P w K mg base CX0 1 "_law_names" (sp__law_names K cs)) (c__law_cell : Cal P w K mg base CX0 1 "_law_cell" (sp__law_cell K cs)) (c__law_params : Cal P w K mg base CX0 1 "_law_params" (sp__law_params K cs)) (c__law_edited : Cal P w K mg base CX0 2 "_law_edited" (sp__law_edited K cs)) (c__law_fits : Cal P w K mg base CX0 2 "_law_fits" (sp__law_fits K cs)) (c__law_class : Cal P w K mg base CX0 6 "_law_class" (sp__law_class K cs)) (c__law_operand : Cal P w K mg base CX0 3 "_law_operand" (sp__law_operand K cs)) : FnOk P w K mg base CX0 7 f fd ["script"] (sp_law K cs) := by
  refine D.ok sc_law (fun vs H Q E h => ?_) (fun cdv A outer s H vs Q E hr h => ?_)
  · obtain ⟨a, ns, rfl, _⟩ := h; rfl
  · obtain ⟨a, ns0, rfl, hS, hlen, q⟩ := h
    refine ⟨_, (pss_cons (ps_set (i := 1) sc_law.nd rfl (by first | exact Or.inl rfl | exact Or.inr rfl) (pe_c0 c__law_names hr (by decide) (by rfl)))
      (pss_cons (ps_for PassesOwn.never rfl (pi_range1 (by rfl) T.m_range (pa_cons (pe_op op_add pe_int (pe_op op_fdiv (pe_callB (call_min2 rfl) (by rfl) T.m_min (by decide +kernel) (pa_cons (pe_callB call_len_seq (by rfl) T.m_len PySem.boot_len (pa_cons (pv 0) pa_nil)) (pa_cons pe_int pa_nil))) pe_int)) pa_nil)) (pg_name (i := 2) sc_law.nd rfl (by first | exact Or.inl rfl | exact Or.inr rfl)) (pss_cons (ps_set (i := 3) sc_law.nd rfl (by first | exact Or.inl rfl | exact Or.inr rfl) (pe_c c__law_cell hr (by decide) (by rfl) (pa_cons (pv 0) (pa_cons (pe_op op_mul pe_int (pv 2)) pa_nil))))
      (pss_cons (ps_set (i := 4) sc_law.nd rfl (by first | exact Or.inl rfl | exact Or.inr rfl) (pe_ix ix_list (pv 1) (pe_op op_mod (pe_op op_fdiv (pe_callTy call_int1 (by rfl) T.m_int (by decide +kernel) (pa_cons (pv 3) pa_nil)) pe_int) pe_int) (fun _ _ => rfl)))
      (C8.pss_cut (ps_if (pt_cmpR op_eq (pe_op op_mod (pe_callTy call_int1 (by rfl) T.m_int (by decide +kernel) (pa_cons (pv 3) pa_nil)) pe_int) pe_int (by first | rfl | exact nomark _)) (pss_one (ps_set (i := 4) sc_law.nd rfl (by first | exact Or.inl rfl | exact Or.inr rfl) (pe_c c__law_edited hr (by decide) (by rfl) (pa_cons (pv 4) (pa_cons (pe_op op_fdiv (pv 3) pe_int) pa_nil))))) pss_nil)
      (pss_cons (ps_set (i := 5) sc_law.nd rfl (by first | exact Or.inl rfl | exact Or.inr rfl) (pe_c c__law_params hr (by decide) (by rfl) (pa_cons (pv 4) pa_nil)))
      (pss_cons (ps_set (i := 6) sc_law.nd rfl (by first | exact Or.inl rfl | exact Or.inr rfl) (pe_lst (pa_cons pe_str (pa_cons pe_str (pa_cons pe_str pa_nil)))))
      (pss_cons (ps_set (i := 7) sc_law.nd rfl (by first | exact Or.inl rfl | exact Or.inr rfl) (pe_op op_mod (pe_op op_fdiv (pe_callTy call_int1 (by rfl) T.m_int (by decide +kernel) (pa_cons (pv 3) pa_nil)) pe_int) pe_int))
      (C8.pss_cut (ps_if (PW.pt (pw_and (pt_cmpR op_notN (pv 5) pe_non (by first | rfl | exact nomark _)) (pw_and1 (pt_cmpR op_gt (pe_op op_mod (pe_callTy call_int1 (by rfl) T.m_int (by decide +kernel) (pa_cons (pv 3) pa_nil)) pe_int) pe_int (by first | rfl | exact nomark _))))) (pss_one (ps_set (i := 7) sc_law.nd rfl (by first | exact Or.inl rfl | exact Or.inr rfl) (pe_callB call_len_seq (by rfl) T.m_len PySem.boot_len (pa_cons (pv 5) pa_nil)))) pss_nil)
      (C8.pss_cut (ps_if (PW.pt (pw_and (pt_cmpR op_notN (pv 5) pe_non (by first | rfl | exact nomark _)) (pw_and1 (pt_cmpR op_eq (pe_callB call_len_seq (by rfl) T.m_len PySem.boot_len (pa_cons (pv 5) pa_nil)) pe_int (by first | rfl | exact nomark _))))) (pss_one (ps_set (i := 6) sc_law.nd rfl (by first | exact Or.inl rfl | exact Or.inr rfl) (pe_lst (pa_cons (pe_ix ix_tup (pv 5) pe_int (fun _ _ => rfl)) (pa_cons (pe_ix ix_tup (pv 5) pe_int (fun _ _ => rfl)) (pa_cons pe_str pa_nil)))))) pss_nil)
      (C8.pss_cut (ps_if (PW.pt (pw_and (pt_cmpR op_notN (pv 5) pe_non (by first | rfl | exact nomark _)) (pw_and1 (pt_cmpR op_eq (pe_callB call_len_seq (by rfl) T.m_len PySem.boot_len (pa_cons (pv 5) pa_nil)) pe_int (by first | rfl | exact nomark _))))) (pss_one (ps_set (i := 6) sc_law.nd rfl (by first | exact Or.inl rfl | exact Or.inr rfl) (pe_lst (pa_cons (pe_ix ix_tup (pv 5) pe_int (fun _ _ => rfl)) (pa_cons pe_str (pa_cons pe_str pa_nil)))))) pss_nil)
      (pss_cons (ps_set (i := 8) sc_law.nd rfl (by first | exact Or.inl rfl | exact Or.inr rfl) (pe_callTy call_tuple_of (by rfl) T.m_tuple (by decide +kernel) (pa_cons (pe_lc (own := [("j", 10)]) (g := gName 10) (tt := tYes) (by rfl) sc_law.nd (pi_range1 (by rfl) T.m_range (pa_cons (pv 7) pa_nil)) (blkOk_by (own := [("j", 10)]) (N := ["script", "names", "k", "pick", "name", "params", "kinds", "count", "operands", "due", "j"]) (sc := defScope s_law) (by decide +kernel)) (fun _ _ _ _ _ => (pg_name (i := 10) sc_law.nd rfl (by first | exact Or.inl rfl | exact Or.inr rfl))) (fun _ _ _ _ _ => pts_nil) (fun _ _ _ _ _ => (pe_c c__law_operand hr (by decide) (by rfl) (pa_cons (pe_c c__law_cell hr (by decide) (by rfl) (pa_cons (pv 0) (pa_cons (pe_op op_add (pe_op op_add (pe_op op_mul pe_int (pv 2)) pe_int) (pv 10)) pa_nil))) (pa_cons (pe_ix ix_listB (pv 6) (pv 10) (fun _ _ => rfl)) pa_nil))))) pa_nil)))
      (pss_cons (ps_set (i := 9) sc_law.nd rfl (by first | exact Or.inl rfl | exact Or.inr rfl) pe_str)
      (pss_cons (ps_if (pt_cmpR op_notN (pv 5) pe_non (by first | rfl | exact nomark _)) (pss_cons (ps_set (i := 9) sc_law.nd rfl (by first | exact Or.inl rfl | exact Or.inr rfl) pe_str)
      (pss_one (ps_if (pt_val (pe_c c__law_fits hr (by decide) (by rfl) (pa_cons (pv 8) (pa_cons (pv 5) pa_nil)))) (pss_one (ps_set (i := 9) sc_law.nd rfl (by first | exact Or.inl rfl | exact Or.inr rfl) pe_str)) pss_nil))) pss_nil)
      (pss_one (ps_if (pt_cmpR op_ne (pe_c c__law_class hr (by decide) (by rfl) (pa_cons (pv 4) (pa_cons (pv 8) pa_nil))) (pv 9) (by first | rfl | exact nomark _)) (pss_one (ps_ret pe_bl)) pss_nil)))))))))))))))
      (pss_one (ps_ret pe_bl)))), ?_⟩
    walk_at "go"
    intro pN H1 s1 _ k1
    have hS1 := s1.seq hS
    walk_at "go"
    simp only [List.length_map]
    obtain ⟨N, hN⟩ : ∃ N, N = (1 + (if 56 < (ns0.length : Int) then 56 else (ns0.length : Int)) / 4).toNat := ⟨_, rfl⟩
    rw [← hN]
    refine for_rangeD (lo := 0) (n := N) (fun i σ H2 => Same H1 H2 ∧ ∃ o2 o3 o4 o5 o6 o7 o8 o9 : Option V, σ = [some (.ref a), some (.ref pN), o2, o3, o4, o5, o6, o7, o8, o9, none]) ⟨Same.refl _, _, _, _, _, _, _, _, _, rfl⟩ ?_ ?_
    · rintro i _ H2 hi ⟨s2, o2, o3, o4, o5, o6, o7, o8, o9, rfl⟩
      have hS2 := s2.seq hS1
      have e4 : 4 * (i : Int) = ((4 * i : Nat) : Int) := by omega
      rw [Int.zero_add]
      walk_at "go"
      refine ⟨a, ns0, 4 * i, (by rw [← e4]; rfl), hS2, ?_⟩
      generalize ns0.getD (4 * i) 0 = pk
      walk_at "go"
      obtain ⟨jn, ejn, hjn⟩ : ∃ j : Nat, pk / 8 % 66 = (j : Int) ∧ j < 66 := ⟨(pk / 8 % 66).toNat, by omega, by omega⟩
      obtain ⟨z0, hz0, hat⟩ := at_strs (zs := namesL) (k := jn) (by rw [names_len]; exact hjn)
      refine ⟨_, _, _, _, rfl, rfl, SqL.of (s2 _ _ k1), (by rw [ejn]; exact hat), ?_⟩
      have hz0l := names_short z0 hz0
      walk_at "go"
      dsimp only [gName]
      refine ⟨fun σ H3 => H2 = H3 ∧ ∃ z : Str, z.length ≤ 300 ∧ σ = [some (.ref a), some (.ref pN), some (.int (i : Int)), some (.int pk), some (.str z), o5, o6, o7, o8, o9, none], ?_, ?_⟩
      · walk_at "go"
        refine ite2 (fun _ => ?_) (fun _ => ?_)
        · walk_at "go"
          intro z' hz'
          walk_at "go"
          exact ⟨_, hz', rfl⟩
        · exact ⟨rfl, z0, by omega, rfl⟩
      rintro _ _ ⟨rfl, z, hz, rfl⟩
      walk_at "go"
      refine par_of (fun hk t H3 s3 kt => ?_) (fun hk H3 s3 => ?_)
      · obtain ⟨hkK2, hk2, hk1⟩ := kinds_K2 hk
        walk_at "go"
        intro p6 h6
        generalize x4 : upd H3 p6 _ = H4
        obtain ⟨s4, k4⟩ := newE (zs := ["i32", "i64", "i32"]) h6 x4 rfl
        have kt4 := s4 _ _ kt
        clear x4
        walk_at "go"
        dsimp only [gName]
        refine ⟨fun σ H5 => H4 = H5 ∧ ∃ c : Nat, c ≤ 3 ∧ σ = [some (.ref a), some (.ref pN), some (.int (i : Int)), some (.int pk), some (.str z), some (.ref t), some (.ref p6), some (.int (c : Int)), o8, o9, none], ?_, ?_⟩
        · walk_at "go"
          refine ite2 (fun _ => ?_) (fun _ => ?_)
          · walk_at "go"
            refine ⟨t, _, rfl, .inr (SqT.of kt4), ?_⟩
            rw [List.length_map]
            walk_at "go"
            exact ⟨_, by omega, rfl⟩
          · exact ⟨rfl, (pk / 528 % 4).toNat, by omega, by rw [show (((pk / 528 % 4).toNat : Nat) : Int) = pk / 528 % 4 by omega]; rfl⟩
        rintro _ _ ⟨rfl, c, hc, rfl⟩
        obtain ⟨ks, hks⟩ : ∃ ks, ks = kindsS z := ⟨_, rfl⟩
        have kt5 : H4 t = some (.tup (ks.map V.str)) := by rw [hks]; exact kt4
        have hkK3 : ∀ k ∈ ks, K2 k := by rw [hks]; exact hkK2
        have hkl : ks.length = 1 ∨ ks.length = 2 := by rw [hks]; omega
        refine ⟨fun σ H5 => Same H4 H5 ∧ ∃ (pK : Addr) (kk : List Str), kk.length = 3 ∧ (∀ k ∈ kk, K2 k) ∧ H5 pK = some (.lst (kk.map V.str)) ∧ σ = [some (.ref a), some (.ref pN), some (.int (i : Int)), some (.int pk), some (.str z), some (.ref t), some (.ref pK), some (.int (c : Int)), o8, o9, none], ?_, ?_⟩
        · walk_at "go"
          refine ⟨t, _, rfl, .inr (SqT.of kt5), ?_⟩
          rw [List.length_map]
          walk_at "go"
          rcases hkl with h1 | h1
          · refine ifEqN (by omega) ?_
            exact ⟨Same.refl _, p6, _, rfl, k3_lit, k4, rfl⟩
          · refine ifEq (by omega) ?_
            walk_at "go"
            refine ⟨_, _, _, _, rfl, rfl, SqT.of kt5, at_strN (k := 0) (by omega), ?_⟩
            walk_at "go"
            refine ⟨_, _, _, _, rfl, rfl, SqT.of kt5, at_strN (k := 1) (by omega), ?_⟩
            walk_at "go"
            intro p7 h7
            refine ⟨Same.new h7, p7, [ks.getD 0 "", ks.getD 1 "", "i64"], rfl, ?_, upd_same, rfl⟩
            intro k hk'
            rcases List.mem_cons.mp hk' with e | hk'
            · rw [e]; exact hkK3 _ (getD_mem (by omega))
            rcases List.mem_cons.mp hk' with e | hk'
            · rw [e]; exact hkK3 _ (getD_mem (by omega))
            · rw [List.mem_singleton.mp hk']; exact .inr rfl
        rintro _ H5 ⟨s5, pK, kk, hkk, hkK, kK, rfl⟩
        have kt6 := s5 _ _ kt5
        refine ⟨fun σ H6 => Same H5 H6 ∧ ∃ (pK : Addr) (kk : List Str), kk.length = 3 ∧ (∀ k ∈ kk, K2 k) ∧ H6 pK = some (.lst (kk.map V.str)) ∧ σ = [some (.ref a), some (.ref pN), some (.int (i : Int)), some (.int pk), some (.str z), some (.ref t), some (.ref pK), some (.int (c : Int)), o8, o9, none], ?_, ?_⟩
        · walk_at "go"
          refine ⟨t, _, rfl, .inr (SqT.of kt6), ?_⟩
          rw [List.length_map]
          walk_at "go"
          rcases hkl with h1 | h1
          · refine ifEq (by omega) ?_
            walk_at "go"
            refine ⟨_, _, _, _, rfl, rfl, SqT.of kt6, at_strN (k := 0) (by omega), ?_⟩
            walk_at "go"
            intro p7 h7
            refine ⟨Same.new h7, p7, [ks.getD 0 "", "i32", "i64"], rfl, ?_, upd_same, rfl⟩
            intro k hk'
            rcases List.mem_cons.mp hk' with e | hk'
            · rw [e]; exact hkK3 _ (getD_mem (by omega))
            rcases List.mem_cons.mp hk' with e | hk'
            · rw [e]; exact .inl rfl
            · rw [List.mem_singleton.mp hk']; exact .inr rfl
          · refine ifEqN (by omega) ?_
            exact ⟨Same.refl _, pK, kk, hkk, hkK, kK, rfl⟩
        clear kK hkK hkk kk pK
        rintro _ H6 ⟨s6, pK, kk, hkk, hkK, kK, rfl⟩
        have s16 := s2.trans (s3.trans (s4.trans (s5.trans s6)))
        have hS6 := s16.seq hS1
        have kt7 := s6 _ _ kt6
        walk_at "go"
        intro D hD
        refine lc_anyR (n := c) (j := 10) (fun v => ∃ z : Int, v = .int z ∧ True) hD (by omega) (fun j H7 Q2 hj s7 q2 => ?_) (fun xs H7 hl hx s7 k7 => ?_)
        · have e5 : 4 * (i : Int) + 1 + (j : Int) = ((4 * i + 1 + j : Nat) : Int) := by omega
          walk_at "go"
          refine ⟨a, ns0, 4 * i + 1 + j, (by rw [← e5]; rfl), s7.seq hS6, ?_⟩
          walk_at "go"
          refine ⟨_, _, _, _, rfl, rfl, SqL.of (s7 _ _ kK), at_strN (k := j) (by omega), ?_⟩
          exact ⟨_, _, rfl, hkK _ (getD_mem (by omega)), fun v H8 s8 => q2 _ _ ⟨v, rfl, True.intro⟩ s8⟩
        obtain ⟨vs, rfl, _⟩ := ints_of hx
        rw [List.length_map] at hl
        walk_at "go"
        refine ⟨D, _, rfl, .inl ⟨SqL.of k7, fun t2 ht2 => ?_⟩⟩
        generalize x8 : upd H7 t2 _ = H8
        obtain ⟨s8, k8⟩ : Same H7 H8 ∧ H8 t2 = some (.tup (vs.map V.int)) := by subst x8; exact ⟨Same.new ht2, upd_same⟩
        clear x8
        have s18 := s16.trans (s7.trans s8)
        walk_at "go"
        refine ⟨t2, t, vs, kindsS z, rfl, SqT.of k8, SqT.of (by rw [← hks]; exact s8 _ _ (s7 _ _ kt7)), hkK2, hk2, ?_⟩
        cases hin : inRB (kindsS z) vs with
        | true =>
          walk_at "go"
          refine ⟨z, t2, vs, rfl, by omega, SqT.of k8, by omega, (fun h => by rw [hk] at h; cases h), (fun _ h => by rw [hin] at h; cases h), fun _ _ H9 s9 => ?_⟩
          walk_at "go"
          exact ⟨s18.trans s9, _, _, _, _, _, _, _, _, rfl⟩
        | false =>
          walk_at "go"
          refine ⟨z, t2, vs, rfl, by omega, SqT.of k8, by omega, (fun h => by rw [hk] at h; cases h), (fun _ _ H9 s9 => ?_), fun _ h => by rw [hin] at h; cases h⟩
          walk_at "go"
          exact ⟨s18.trans s9, _, _, _, _, _, _, _, _, rfl⟩
      · walk_at "go"
        intro p6 h6
        generalize x4 : upd H3 p6 _ = H4
        obtain ⟨s4, k4⟩ := newE (zs := ["i32", "i64", "i32"]) h6 x4 rfl
        clear x4
        walk_at "go"
        dsimp only [gName]
        refine ⟨fun σ H5 => H4 = H5 ∧ σ = [some (.ref a), some (.ref pN), some (.int (i : Int)), some (.int pk), some (.str z), some .non, some (.ref p6), some (.int (pk / 528 % 4)), o8, o9, none], ?_, ?_⟩
        · walk_at "go"
          rfl
        rintro _ _ ⟨rfl, rfl⟩
        refine ⟨fun σ H5 => H4 = H5 ∧ σ = [some (.ref a), some (.ref pN), some (.int (i : Int)), some (.int pk), some (.str z), some .non, some (.ref p6), some (.int (pk / 528 % 4)), o8, o9, none], ?_, ?_⟩
        · walk_at "go"
          rfl
        rintro _ _ ⟨rfl, rfl⟩
        refine ⟨fun σ H5 => H4 = H5 ∧ σ = [some (.ref a), some (.ref pN), some (.int (i : Int)), some (.int pk), some (.str z), some .non, some (.ref p6), some (.int (pk / 528 % 4)), o8, o9, none], ?_, ?_⟩
        · walk_at "go"
          rfl
        rintro _ _ ⟨rfl, rfl⟩
        obtain ⟨c, ec, hc⟩ : ∃ c : Nat, pk / 528 % 4 = (c : Int) ∧ c ≤ 3 := ⟨(pk / 528 % 4).toNat, by omega, by omega⟩
        rw [ec]
        have s16 := s2.trans (s3.trans s4)
        have hS6 := s16.seq hS1
        walk_at "go"
        intro D hD
        refine lc_anyR (n := c) (j := 10) (fun v => ∃ z : Int, v = .int z ∧ True) hD (by omega) (fun j H7 Q2 hj s7 q2 => ?_) (fun xs H7 hl hx s7 k7 => ?_)
        · have e5 : 4 * (i : Int) + 1 + (j : Int) = ((4 * i + 1 + j : Nat) : Int) := by omega
          walk_at "go"
          refine ⟨a, ns0, 4 * i + 1 + j, (by rw [← e5]; rfl), s7.seq hS6, ?_⟩
          walk_at "go"
          refine ⟨_, _, _, _, rfl, rfl, SqL.of (s7 _ _ k4), at_strN (k := j) (show j < 3 by omega), ?_⟩
          exact ⟨_, _, rfl, k3_lit _ (getD_mem (show j < 3 by omega)), fun v H8 s8 => q2 _ _ ⟨v, rfl, True.intro⟩ s8⟩
        obtain ⟨vs, rfl, _⟩ := ints_of hx
        rw [List.length_map] at hl
        walk_at "go"
        refine ⟨D, _, rfl, .inl ⟨SqL.of k7, fun t2 ht2 => ?_⟩⟩
        generalize x8 : upd H7 t2 _ = H8
        obtain ⟨s8, k8⟩ : Same H7 H8 ∧ H8 t2 = some (.tup (vs.map V.int)) := by subst x8; exact ⟨Same.new ht2, upd_same⟩
        clear x8
        have s18 := s16.trans (s7.trans s8)
        walk_at "go"
        refine ⟨z, t2, vs, rfl, by omega, SqT.of k8, by omega, (fun _ H9 s9 => ?_), (fun h => by rw [hk] at h; cases h), (fun h => by rw [hk] at h; cases h)⟩
        walk_at "go"
        exact ⟨s18.trans s9, _, _, _, _, _, _, _, _, rfl⟩
    rintro _ H2 ⟨s2, o2, o3, o4, o5, o6, o7, o8, o9, rfl⟩
    walk_at "go"
    exact q _
end
theorem all_mk {l : PySem.W.OpenLaw} {w : World} {K : PySem.W.Frag} {h : Heap} {mg : Str → Option Value} {fa f0 f1 f2 f3 f4 f5 f6 f7 f8 f9 f10 f11 f12 f13 f14 f15 f16 f17 f18 f19 f20 f21 f22 f23 f24 f25 f26 f27 f28 f29 f30 f31 f32 f33 f34 f35 f36 f37 f38 f39 f40 f41 f42 f43 f44 f45 f46 f47 f48 : Addr} (X : K.In h) (G : h.Ns mainGlobals mg) (hfa : mg "law" = some (.ref fa))
    {od0 an0 od1 an1 od2 an2 od3 an3 od4 an4 od5 an5 od6 an6 od7 an7 od8 an8 od9 an9 od10 an10 od11 an11 od12 an12 od13 an13 od14 an14 od15 an15 od16 an16 od17 an17 od18 an18 od19 an19 od20 an20 od21 an21 od22 an22 od23 an23 od24 an24 od25 an25 od26 an26 od27 an27 od28 an28 od29 an29 od30 an30 od31 an31 od32 an32 od33 an33 od34 an34 od35 an35 od36 an36 od37 an37 od38 an38 od39 an39 od40 an40 od41 an41 od42 an42 od43 an43 od44 an44 od45 an45 od46 an46 od47 an47 od48 an48 : Option Addr} {sl0 sl1 sl2 sl3 sl4 sl5 sl6 sl7 sl8 sl9 sl10 sl11 sl12 sl13 sl14 sl15 sl16 sl17 sl18 sl19 sl20 sl21 sl22 sl23 sl24 sl25 sl26 sl27 sl28 sl29 sl30 sl31 sl32 sl33 sl34 sl35 sl36 sl37 sl38 sl39 sl40 sl41 sl42 sl43 sl44 sl45 sl46 sl47 sl48 : Array (Option Value)} {oc0 kV0 dc0 pm0 cd0 ct0 oc1 kV1 dc1 pm1 cd1 ct1 oc2 kV2 dc2 pm2 cd2 ct2 oc3 kV3 dc3 pm3 cd3 ct3 oc4 kV4 dc4 pm4 cd4 ct4 oc5 kV5 dc5 pm5 cd5 ct5 oc6 kV6 dc6 pm6 cd6 ct6 oc7 kV7 dc7 pm7 cd7 ct7 oc8 kV8 dc8 pm8 cd8 ct8 oc9 kV9 dc9 pm9 cd9 ct9 oc10 kV10 dc10 pm10 cd10 ct10 oc11 kV11 dc11 pm11 cd11 ct11 oc12 kV12 dc12 pm12 cd12 ct12 oc13 kV13 dc13 pm13 cd13 ct13 oc14 kV14 dc14 pm14 cd14 ct14 oc15 kV15 dc15 pm15 cd15 ct15 oc16 kV16 dc16 pm16 cd16 ct16 oc17 kV17 dc17 pm17 cd17 ct17 oc18 kV18 dc18 pm18 cd18 ct18 oc19 kV19 dc19 pm19 cd19 ct19 oc20 kV20 dc20 pm20 cd20 ct20 oc21 kV21 dc21 pm21 cd21 ct21 oc22 kV22 dc22 pm22 cd22 ct22 oc23 kV23 dc23 pm23 cd23 ct23 oc24 kV24 dc24 pm24 cd24 ct24 oc25 kV25 dc25 pm25 cd25 ct25 oc26 kV26 dc26 pm26 cd26 ct26 oc27 kV27 dc27 pm27 cd27 ct27 oc28 kV28 dc28 pm28 cd28 ct28 oc29 kV29 dc29 pm29 cd29 ct29 oc30 kV30 dc30 pm30 cd30 ct30 oc31 kV31 dc31 pm31 cd31 ct31 oc32 kV32 dc32 pm32 cd32 ct32 oc33 kV33 dc33 pm33 cd33 ct33 oc34 kV34 dc34 pm34 cd34 ct34 oc35 kV35 dc35 pm35 cd35 ct35 oc36 kV36 dc36 pm36 cd36 ct36 oc37 kV37 dc37 pm37 cd37 ct37 oc38 kV38 dc38 pm38 cd38 ct38 oc39 kV39 dc39 pm39 cd39 ct39 oc40 kV40 dc40 pm40 cd40 ct40 oc41 kV41 dc41 pm41 cd41 ct41 oc42 kV42 dc42 pm42 cd42 ct42 oc43 kV43 dc43 pm43 cd43 ct43 oc44 kV44 dc44 pm44 cd44 ct44 oc45 kV45 dc45 pm45 cd45 ct45 oc46 kV46 dc46 pm46 cd46 ct46 oc47 kV47 dc47 pm47 cd47 ct47 oc48 kV48 dc48 pm48 cd48 ct48 : Value}
    (a0 : PySem.W.nsIn K mainGlobals "width" = some (some (.ref f0))) (l0 : K.lookup f0 = some ⟨oc0, od0, .func (PySem.W.fnOf "width" "width" (defArgs s_width) (defBody s_width) (defScope s_width) .none kV0 dc0 pm0 an0 cd0 ct0), sl0⟩) (c0 : PySem.W.codeIn K cd0 "width" = true) (k0 : PySem.W.keepIn K (.ref f0) = true)
    (a1 : PySem.W.nsIn K mainGlobals "unsigned" = some (some (.ref f1))) (l1 : K.lookup f1 = some ⟨oc1, od1, .func (PySem.W.fnOf "unsigned" "unsigned" (defArgs s_unsigned) (defBody s_unsigned) (defScope s_unsigned) .none kV1 dc1 pm1 an1 cd1 ct1), sl1⟩) (c1 : PySem.W.codeIn K cd1 "unsigned" = true) (k1 : PySem.W.keepIn K (.ref f1) = true)
    (a2 : PySem.W.nsIn K mainGlobals "extend" = some (some (.ref f2))) (l2 : K.lookup f2 = some ⟨oc2, od2, .func (PySem.W.fnOf "extend" "extend" (defArgs s_extend) (defBody s_extend) (defScope s_extend) .none kV2 dc2 pm2 an2 cd2 ct2), sl2⟩) (c2 : PySem.W.codeIn K cd2 "extend" = true) (k2 : PySem.W.keepIn K (.ref f2) = true)
    (a3 : PySem.W.nsIn K mainGlobals "signed" = some (some (.ref f3))) (l3 : K.lookup f3 = some ⟨oc3, od3, .func (PySem.W.fnOf "signed" "signed" (defArgs s_signed) (defBody s_signed) (defScope s_signed) .none kV3 dc3 pm3 an3 cd3 ct3), sl3⟩) (c3 : PySem.W.codeIn K cd3 "signed" = true) (k3 : PySem.W.keepIn K (.ref f3) = true)
    (a4 : PySem.W.nsIn K mainGlobals "add" = some (some (.ref f4))) (l4 : K.lookup f4 = some ⟨oc4, od4, .func (PySem.W.fnOf "add" "add" (defArgs s_add) (defBody s_add) (defScope s_add) .none kV4 dc4 pm4 an4 cd4 ct4), sl4⟩) (c4 : PySem.W.codeIn K cd4 "add" = true) (k4 : PySem.W.keepIn K (.ref f4) = true)
    (a5 : PySem.W.nsIn K mainGlobals "sub" = some (some (.ref f5))) (l5 : K.lookup f5 = some ⟨oc5, od5, .func (PySem.W.fnOf "sub" "sub" (defArgs s_sub) (defBody s_sub) (defScope s_sub) .none kV5 dc5 pm5 an5 cd5 ct5), sl5⟩) (c5 : PySem.W.codeIn K cd5 "sub" = true) (k5 : PySem.W.keepIn K (.ref f5) = true)
    (a6 : PySem.W.nsIn K mainGlobals "mul" = some (some (.ref f6))) (l6 : K.lookup f6 = some ⟨oc6, od6, .func (PySem.W.fnOf "mul" "mul" (defArgs s_mul) (defBody s_mul) (defScope s_mul) .none kV6 dc6 pm6 an6 cd6 ct6), sl6⟩) (c6 : PySem.W.codeIn K cd6 "mul" = true) (k6 : PySem.W.keepIn K (.ref f6) = true)
    (a7 : PySem.W.nsIn K mainGlobals "quotient" = some (some (.ref f7))) (l7 : K.lookup f7 = some ⟨oc7, od7, .func (PySem.W.fnOf "quotient" "quotient" (defArgs s_quotient) (defBody s_quotient) (defScope s_quotient) .none kV7 dc7 pm7 an7 cd7 ct7), sl7⟩) (c7 : PySem.W.codeIn K cd7 "quotient" = true) (k7 : PySem.W.keepIn K (.ref f7) = true)
    (a8 : PySem.W.nsIn K mainGlobals "signed_quotient" = some (some (.ref f8))) (l8 : K.lookup f8 = some ⟨oc8, od8, .func (PySem.W.fnOf "signed_quotient" "signed_quotient" (defArgs s_signed_quotient) (defBody s_signed_quotient) (defScope s_signed_quotient) .none kV8 dc8 pm8 an8 cd8 ct8), sl8⟩) (c8 : PySem.W.codeIn K cd8 "signed_quotient" = true) (k8 : PySem.W.keepIn K (.ref f8) = true)
    (a9 : PySem.W.nsIn K mainGlobals "remainder" = some (some (.ref f9))) (l9 : K.lookup f9 = some ⟨oc9, od9, .func (PySem.W.fnOf "remainder" "remainder" (defArgs s_remainder) (defBody s_remainder) (defScope s_remainder) .none kV9 dc9 pm9 an9 cd9 ct9), sl9⟩) (c9 : PySem.W.codeIn K cd9 "remainder" = true) (k9 : PySem.W.keepIn K (.ref f9) = true)
    (a10 : PySem.W.nsIn K mainGlobals "both" = some (some (.ref f10))) (l10 : K.lookup f10 = some ⟨oc10, od10, .func (PySem.W.fnOf "both" "both" (defArgs s_both) (defBody s_both) (defScope s_both) .none kV10 dc10 pm10 an10 cd10 ct10), sl10⟩) (c10 : PySem.W.codeIn K cd10 "both" = true) (k10 : PySem.W.keepIn K (.ref f10) = true)
    (a11 : PySem.W.nsIn K mainGlobals "either" = some (some (.ref f11))) (l11 : K.lookup f11 = some ⟨oc11, od11, .func (PySem.W.fnOf "either" "either" (defArgs s_either) (defBody s_either) (defScope s_either) .none kV11 dc11 pm11 an11 cd11 ct11), sl11⟩) (c11 : PySem.W.codeIn K cd11 "either" = true) (k11 : PySem.W.keepIn K (.ref f11) = true)
    (a12 : PySem.W.nsIn K mainGlobals "differing" = some (some (.ref f12))) (l12 : K.lookup f12 = some ⟨oc12, od12, .func (PySem.W.fnOf "differing" "differing" (defArgs s_differing) (defBody s_differing) (defScope s_differing) .none kV12 dc12 pm12 an12 cd12 ct12), sl12⟩) (c12 : PySem.W.codeIn K cd12 "differing" = true) (k12 : PySem.W.keepIn K (.ref f12) = true)
    (a13 : PySem.W.nsIn K mainGlobals "shift_left" = some (some (.ref f13))) (l13 : K.lookup f13 = some ⟨oc13, od13, .func (PySem.W.fnOf "shift_left" "shift_left" (defArgs s_shift_left) (defBody s_shift_left) (defScope s_shift_left) .none kV13 dc13 pm13 an13 cd13 ct13), sl13⟩) (c13 : PySem.W.codeIn K cd13 "shift_left" = true) (k13 : PySem.W.keepIn K (.ref f13) = true)
    (a14 : PySem.W.nsIn K mainGlobals "shift_right" = some (some (.ref f14))) (l14 : K.lookup f14 = some ⟨oc14, od14, .func (PySem.W.fnOf "shift_right" "shift_right" (defArgs s_shift_right) (defBody s_shift_right) (defScope s_shift_right) .none kV14 dc14 pm14 an14 cd14 ct14), sl14⟩) (c14 : PySem.W.codeIn K cd14 "shift_right" = true) (k14 : PySem.W.keepIn K (.ref f14) = true)
    (a15 : PySem.W.nsIn K mainGlobals "rotate" = some (some (.ref f15))) (l15 : K.lookup f15 = some ⟨oc15, od15, .func (PySem.W.fnOf "rotate" "rotate" (defArgs s_rotate) (defBody s_rotate) (defScope s_rotate) .none kV15 dc15 pm15 an15 cd15 ct15), sl15⟩) (c15 : PySem.W.codeIn K cd15 "rotate" = true) (k15 : PySem.W.keepIn K (.ref f15) = true)
    (a16 : PySem.W.nsIn K mainGlobals "rotate_left" = some (some (.ref f16))) (l16 : K.lookup f16 = some ⟨oc16, od16, .func (PySem.W.fnOf "rotate_left" "rotate_left" (defArgs s_rotate_left) (defBody s_rotate_left) (defScope s_rotate_left) .none kV16 dc16 pm16 an16 cd16 ct16), sl16⟩) (c16 : PySem.W.codeIn K cd16 "rotate_left" = true) (k16 : PySem.W.keepIn K (.ref f16) = true)
    (a17 : PySem.W.nsIn K mainGlobals "rotate_right" = some (some (.ref f17))) (l17 : K.lookup f17 = some ⟨oc17, od17, .func (PySem.W.fnOf "rotate_right" "rotate_right" (defArgs s_rotate_right) (defBody s_rotate_right) (defScope s_rotate_right) .none kV17 dc17 pm17 an17 cd17 ct17), sl17⟩) (c17 : PySem.W.codeIn K cd17 "rotate_right" = true) (k17 : PySem.W.keepIn K (.ref f17) = true)
    (a18 : PySem.W.nsIn K mainGlobals "same" = some (some (.ref f18))) (l18 : K.lookup f18 = some ⟨oc18, od18, .func (PySem.W.fnOf "same" "same" (defArgs s_same) (defBody s_same) (defScope s_same) .none kV18 dc18 pm18 an18 cd18 ct18), sl18⟩) (c18 : PySem.W.codeIn K cd18 "same" = true) (k18 : PySem.W.keepIn K (.ref f18) = true)
    (a19 : PySem.W.nsIn K mainGlobals "other" = some (some (.ref f19))) (l19 : K.lookup f19 = some ⟨oc19, od19, .func (PySem.W.fnOf "other" "other" (defArgs s_other) (defBody s_other) (defScope s_other) .none kV19 dc19 pm19 an19 cd19 ct19), sl19⟩) (c19 : PySem.W.codeIn K cd19 "other" = true) (k19 : PySem.W.keepIn K (.ref f19) = true)
    (a20 : PySem.W.nsIn K mainGlobals "less" = some (some (.ref f20))) (l20 : K.lookup f20 = some ⟨oc20, od20, .func (PySem.W.fnOf "less" "less" (defArgs s_less) (defBody s_less) (defScope s_less) .none kV20 dc20 pm20 an20 cd20 ct20), sl20⟩) (c20 : PySem.W.codeIn K cd20 "less" = true) (k20 : PySem.W.keepIn K (.ref f20) = true)
    (a21 : PySem.W.nsIn K mainGlobals "greater" = some (some (.ref f21))) (l21 : K.lookup f21 = some ⟨oc21, od21, .func (PySem.W.fnOf "greater" "greater" (defArgs s_greater) (defBody s_greater) (defScope s_greater) .none kV21 dc21 pm21 an21 cd21 ct21), sl21⟩) (c21 : PySem.W.codeIn K cd21 "greater" = true) (k21 : PySem.W.keepIn K (.ref f21) = true)
    (a22 : PySem.W.nsIn K mainGlobals "at_most" = some (some (.ref f22))) (l22 : K.lookup f22 = some ⟨oc22, od22, .func (PySem.W.fnOf "at_most" "at_most" (defArgs s_at_most) (defBody s_at_most) (defScope s_at_most) .none kV22 dc22 pm22 an22 cd22 ct22), sl22⟩) (c22 : PySem.W.codeIn K cd22 "at_most" = true) (k22 : PySem.W.keepIn K (.ref f22) = true)
    (a23 : PySem.W.nsIn K mainGlobals "at_least" = some (some (.ref f23))) (l23 : K.lookup f23 = some ⟨oc23, od23, .func (PySem.W.fnOf "at_least" "at_least" (defArgs s_at_least) (defBody s_at_least) (defScope s_at_least) .none kV23 dc23 pm23 an23 cd23 ct23), sl23⟩) (c23 : PySem.W.codeIn K cd23 "at_least" = true) (k23 : PySem.W.keepIn K (.ref f23) = true)
    (a24 : PySem.W.nsIn K mainGlobals "is_zero" = some (some (.ref f24))) (l24 : K.lookup f24 = some ⟨oc24, od24, .func (PySem.W.fnOf "is_zero" "is_zero" (defArgs s_is_zero) (defBody s_is_zero) (defScope s_is_zero) .none kV24 dc24 pm24 an24 cd24 ct24), sl24⟩) (c24 : PySem.W.codeIn K cd24 "is_zero" = true) (k24 : PySem.W.keepIn K (.ref f24) = true)
    (a25 : PySem.W.nsIn K mainGlobals "low_bits" = some (some (.ref f25))) (l25 : K.lookup f25 = some ⟨oc25, od25, .func (PySem.W.fnOf "low_bits" "low_bits" (defArgs s_low_bits) (defBody s_low_bits) (defScope s_low_bits) .none kV25 dc25 pm25 an25 cd25 ct25), sl25⟩) (c25 : PySem.W.codeIn K cd25 "low_bits" = true) (k25 : PySem.W.keepIn K (.ref f25) = true)
    (a26 : PySem.W.nsIn K mainGlobals "leading_zeros" = some (some (.ref f26))) (l26 : K.lookup f26 = some ⟨oc26, od26, .func (PySem.W.fnOf "leading_zeros" "leading_zeros" (defArgs s_leading_zeros) (defBody s_leading_zeros) (defScope s_leading_zeros) .none kV26 dc26 pm26 an26 cd26 ct26), sl26⟩) (c26 : PySem.W.codeIn K cd26 "leading_zeros" = true) (k26 : PySem.W.keepIn K (.ref f26) = true)
    (a27 : PySem.W.nsIn K mainGlobals "trailing_zeros" = some (some (.ref f27))) (l27 : K.lookup f27 = some ⟨oc27, od27, .func (PySem.W.fnOf "trailing_zeros" "trailing_zeros" (defArgs s_trailing_zeros) (defBody s_trailing_zeros) (defScope s_trailing_zeros) .none kV27 dc27 pm27 an27 cd27 ct27), sl27⟩) (c27 : PySem.W.codeIn K cd27 "trailing_zeros" = true) (k27 : PySem.W.keepIn K (.ref f27) = true)
    (a28 : PySem.W.nsIn K mainGlobals "ones" = some (some (.ref f28))) (l28 : K.lookup f28 = some ⟨oc28, od28, .func (PySem.W.fnOf "ones" "ones" (defArgs s_ones) (defBody s_ones) (defScope s_ones) .none kV28 dc28 pm28 an28 cd28 ct28), sl28⟩) (c28 : PySem.W.codeIn K cd28 "ones" = true) (k28 : PySem.W.keepIn K (.ref f28) = true)
    (a29 : PySem.W.nsIn K mainGlobals "extend_8" = some (some (.ref f29))) (l29 : K.lookup f29 = some ⟨oc29, od29, .func (PySem.W.fnOf "extend_8" "extend_8" (defArgs s_extend_8) (defBody s_extend_8) (defScope s_extend_8) .none kV29 dc29 pm29 an29 cd29 ct29), sl29⟩) (c29 : PySem.W.codeIn K cd29 "extend_8" = true) (k29 : PySem.W.keepIn K (.ref f29) = true)
    (a30 : PySem.W.nsIn K mainGlobals "extend_16" = some (some (.ref f30))) (l30 : K.lookup f30 = some ⟨oc30, od30, .func (PySem.W.fnOf "extend_16" "extend_16" (defArgs s_extend_16) (defBody s_extend_16) (defScope s_extend_16) .none kV30 dc30 pm30 an30 cd30 ct30), sl30⟩) (c30 : PySem.W.codeIn K cd30 "extend_16" = true) (k30 : PySem.W.keepIn K (.ref f30) = true)
    (a31 : PySem.W.nsIn K mainGlobals "extend_32" = some (some (.ref f31))) (l31 : K.lookup f31 = some ⟨oc31, od31, .func (PySem.W.fnOf "extend_32" "extend_32" (defArgs s_extend_32) (defBody s_extend_32) (defScope s_extend_32) .none kV31 dc31 pm31 an31 cd31 ct31), sl31⟩) (c31 : PySem.W.codeIn K cd31 "extend_32" = true) (k31 : PySem.W.keepIn K (.ref f31) = true)
    (a32 : PySem.W.nsIn K mainGlobals "unchanged" = some (some (.ref f32))) (l32 : K.lookup f32 = some ⟨oc32, od32, .func (PySem.W.fnOf "unchanged" "unchanged" (defArgs s_unchanged) (defBody s_unchanged) (defScope s_unchanged) .none kV32 dc32 pm32 an32 cd32 ct32), sl32⟩) (c32 : PySem.W.codeIn K cd32 "unchanged" = true) (k32 : PySem.W.keepIn K (.ref f32) = true)
    (a33 : PySem.W.nsIn K mainGlobals "signature_of" = some (some (.ref f33))) (l33 : K.lookup f33 = some ⟨oc33, od33, .func (PySem.W.fnOf "signature_of" "signature_of" (defArgs s_signature_of) (defBody s_signature_of) (defScope s_signature_of) .none kV33 dc33 pm33 an33 cd33 ct33), sl33⟩) (c33 : PySem.W.codeIn K cd33 "signature_of" = true) (k33 : PySem.W.keepIn K (.ref f33) = true)
    (a34 : PySem.W.nsIn K mainGlobals "in_range" = some (some (.ref f34))) (l34 : K.lookup f34 = some ⟨oc34, od34, .func (PySem.W.fnOf "in_range" "in_range" (defArgs s_in_range) (defBody s_in_range) (defScope s_in_range) .none kV34 dc34 pm34 an34 cd34 ct34), sl34⟩) (c34 : PySem.W.codeIn K cd34 "in_range" = true) (k34 : PySem.W.keepIn K (.ref f34) = true)
    (a35 : PySem.W.nsIn K mainGlobals "forms_of" = some (some (.ref f35))) (l35 : K.lookup f35 = some ⟨oc35, od35, .func (PySem.W.fnOf "forms_of" "forms_of" (defArgs s_forms_of) (defBody s_forms_of) (defScope s_forms_of) .none kV35 dc35 pm35 an35 cd35 ct35), sl35⟩) (c35 : PySem.W.codeIn K cd35 "forms_of" = true) (k35 : PySem.W.keepIn K (.ref f35) = true)
    (a36 : PySem.W.nsIn K mainGlobals "calculate" = some (some (.ref f36))) (l36 : K.lookup f36 = some ⟨oc36, od36, .func (PySem.W.fnOf "calculate" "calculate" (defArgs s_calculate) (defBody s_calculate) (defScope s_calculate) .none kV36 dc36 pm36 an36 cd36 ct36), sl36⟩) (c36 : PySem.W.codeIn K cd36 "calculate" = true) (k36 : PySem.W.keepIn K (.ref f36) = true)
    (a37 : PySem.W.nsIn K mainGlobals "_law_is_integer" = some (some (.ref f37))) (l37 : K.lookup f37 = some ⟨oc37, od37, .func (PySem.W.fnOf "_law_is_integer" "_law_is_integer" (defArgs s__law_is_integer) (defBody s__law_is_integer) (defScope s__law_is_integer) .none kV37 dc37 pm37 an37 cd37 ct37), sl37⟩) (c37 : PySem.W.codeIn K cd37 "_law_is_integer" = true) (k37 : PySem.W.keepIn K (.ref f37) = true)
    (a38 : PySem.W.nsIn K mainGlobals "_law_cell" = some (some (.ref f38))) (l38 : K.lookup f38 = some ⟨oc38, od38, .func (PySem.W.fnOf "_law_cell" "_law_cell" (defArgs s__law_cell) (defBody s__law_cell) (defScope s__law_cell) .none kV38 dc38 pm38 an38 cd38 ct38), sl38⟩) (c38 : PySem.W.codeIn K cd38 "_law_cell" = true) (k38 : PySem.W.keepIn K (.ref f38) = true)
    (a39 : PySem.W.nsIn K mainGlobals "_law_signed" = some (some (.ref f39))) (l39 : K.lookup f39 = some ⟨oc39, od39, .func (PySem.W.fnOf "_law_signed" "_law_signed" (defArgs s__law_signed) (defBody s__law_signed) (defScope s__law_signed) .none kV39 dc39 pm39 an39 cd39 ct39), sl39⟩) (c39 : PySem.W.codeIn K cd39 "_law_signed" = true) (k39 : PySem.W.keepIn K (.ref f39) = true)
    (a40 : PySem.W.nsIn K mainGlobals "_law_value" = some (some (.ref f40))) (l40 : K.lookup f40 = some ⟨oc40, od40, .func (PySem.W.fnOf "_law_value" "_law_value" (defArgs s__law_value) (defBody s__law_value) (defScope s__law_value) .none kV40 dc40 pm40 an40 cd40 ct40), sl40⟩) (c40 : PySem.W.codeIn K cd40 "_law_value" = true) (k40 : PySem.W.keepIn K (.ref f40) = true)
    (a41 : PySem.W.nsIn K mainGlobals "_law_params" = some (some (.ref f41))) (l41 : K.lookup f41 = some ⟨oc41, od41, .func (PySem.W.fnOf "_law_params" "_law_params" (defArgs s__law_params) (defBody s__law_params) (defScope s__law_params) .none kV41 dc41 pm41 an41 cd41 ct41), sl41⟩) (c41 : PySem.W.codeIn K cd41 "_law_params" = true) (k41 : PySem.W.keepIn K (.ref f41) = true)
    (a42 : PySem.W.nsIn K mainGlobals "_law_names" = some (some (.ref f42))) (l42 : K.lookup f42 = some ⟨oc42, od42, .func (PySem.W.fnOf "_law_names" "_law_names" (defArgs s__law_names) (defBody s__law_names) (defScope s__law_names) .none kV42 dc42 pm42 an42 cd42 ct42), sl42⟩) (c42 : PySem.W.codeIn K cd42 "_law_names" = true) (k42 : PySem.W.keepIn K (.ref f42) = true)
    (a43 : PySem.W.nsIn K mainGlobals "_law_char" = some (some (.ref f43))) (l43 : K.lookup f43 = some ⟨oc43, od43, .func (PySem.W.fnOf "_law_char" "_law_char" (defArgs s__law_char) (defBody s__law_char) (defScope s__law_char) .none kV43 dc43 pm43 an43 cd43 ct43), sl43⟩) (c43 : PySem.W.codeIn K cd43 "_law_char" = true) (k43 : PySem.W.keepIn K (.ref f43) = true)
    (a44 : PySem.W.nsIn K mainGlobals "_law_edited" = some (some (.ref f44))) (l44 : K.lookup f44 = some ⟨oc44, od44, .func (PySem.W.fnOf "_law_edited" "_law_edited" (defArgs s__law_edited) (defBody s__law_edited) (defScope s__law_edited) .none kV44 dc44 pm44 an44 cd44 ct44), sl44⟩) (c44 : PySem.W.codeIn K cd44 "_law_edited" = true) (k44 : PySem.W.keepIn K (.ref f44) = true)
    (a45 : PySem.W.nsIn K mainGlobals "_law_operand" = some (some (.ref f45))) (l45 : K.lookup f45 = some ⟨oc45, od45, .func (PySem.W.fnOf "_law_operand" "_law_operand" (defArgs s__law_operand) (defBody s__law_operand) (defScope s__law_operand) .none kV45 dc45 pm45 an45 cd45 ct45), sl45⟩) (c45 : PySem.W.codeIn K cd45 "_law_operand" = true) (k45 : PySem.W.keepIn K (.ref f45) = true)
    (a46 : PySem.W.nsIn K mainGlobals "_law_fits" = some (some (.ref f46))) (l46 : K.lookup f46 = some ⟨oc46, od46, .func (PySem.W.fnOf "_law_fits" "_law_fits" (defArgs s__law_fits) (defBody s__law_fits) (defScope s__law_fits) .none kV46 dc46 pm46 an46 cd46 ct46), sl46⟩) (c46 : PySem.W.codeIn K cd46 "_law_fits" = true) (k46 : PySem.W.keepIn K (.ref f46) = true)
    (a47 : PySem.W.nsIn K mainGlobals "_law_class" = some (some (.ref f47))) (l47 : K.lookup f47 = some ⟨oc47, od47, .func (PySem.W.fnOf "_law_class" "_law_class" (defArgs s__law_class) (defBody s__law_class) (defScope s__law_class) .none kV47 dc47 pm47 an47 cd47 ct47), sl47⟩) (c47 : PySem.W.codeIn K cd47 "_law_class" = true) (k47 : PySem.W.keepIn K (.ref f47) = true)
    (a48 : PySem.W.nsIn K mainGlobals "law" = some (some (.ref f48))) (l48 : K.lookup f48 = some ⟨oc48, od48, .func (PySem.W.fnOf "law" "law" (defArgs s_law) (defBody s_law) (defScope s_law) .none kV48 dc48 pm48 an48 cd48 ct48), sl48⟩) (c48 : PySem.W.codeIn K cd48 "law" = true) (k48 : PySem.W.keepIn K (.ref f48) = true)
    (z_abs : PySem.W.nsIn K mainGlobals "abs" = some none)
    (z_bool : PySem.W.nsIn K mainGlobals "bool" = some none)
    (z_int : PySem.W.nsIn K mainGlobals "int" = some none)
    (z_isinstance : PySem.W.nsIn K mainGlobals "isinstance" = some none)
    (z_len : PySem.W.nsIn K mainGlobals "len" = some none)
    (z_list : PySem.W.nsIn K mainGlobals "list" = some none)
    (z_max : PySem.W.nsIn K mainGlobals "max" = some none)
    (z_min : PySem.W.nsIn K mainGlobals "min" = some none)
    (z_range : PySem.W.nsIn K mainGlobals "range" = some none)
    (z_str : PySem.W.nsIn K mainGlobals "str" = some none)
    (z_tuple : PySem.W.nsIn K mainGlobals "tuple" = some none)
    (z_zip : PySem.W.nsIn K mainGlobals "zip" = some none)
    {cC_HostError cC_Trap cI_Trap cC_UnknownInstruction cI_UnknownInstruction cC_BadValues : Addr}
    (sp0 : PySem.W.specialIn K (.builtin "object.__class__") "__get__" = some (some (.builtin "getset_descriptor.__get__"))) (tk0 : PySem.W.takesIn K (.builtin "object.__class__") = some true)
    (aC_HostError : PySem.W.nsIn K mainGlobals "HostError" = some (some (.ref cC_HostError)))
    (aC_Trap : PySem.W.nsIn K mainGlobals "Trap" = some (some (.ref cC_Trap)))
    (aC_UnknownInstruction : PySem.W.nsIn K mainGlobals "UnknownInstruction" = some (some (.ref cC_UnknownInstruction)))
    (aC_BadValues : PySem.W.nsIn K mainGlobals "BadValues" = some (some (.ref cC_BadValues)))
    (ex_HostError : PySem.W.subIn K (.ref cC_HostError) (.type "BaseException") = some true)
    (ty_HostError : PySem.W.typeIn K (.ref cC_HostError) = some (.type "type"))
    (hd_HostError : PySem.W.hasDictIn K cC_HostError = true)
    (ex_Trap : PySem.W.subIn K (.ref cC_Trap) (.type "BaseException") = some true)
    (ty_Trap : PySem.W.typeIn K (.ref cC_Trap) = some (.type "type"))
    (hd_Trap : PySem.W.hasDictIn K cC_Trap = true)
    (ex_UnknownInstruction : PySem.W.subIn K (.ref cC_UnknownInstruction) (.type "BaseException") = some true)
    (ty_UnknownInstruction : PySem.W.typeIn K (.ref cC_UnknownInstruction) = some (.type "type"))
    (hd_UnknownInstruction : PySem.W.hasDictIn K cC_UnknownInstruction = true)
    (ex_BadValues : PySem.W.subIn K (.ref cC_BadValues) (.type "BaseException") = some true)
    (ty_BadValues : PySem.W.typeIn K (.ref cC_BadValues) = some (.type "type"))
    (hd_BadValues : PySem.W.hasDictIn K cC_BadValues = true)
    {nm_Trap qn_Trap : Str} {N_Trap : Addr} {bs_Trap : List Value} {sn_Trap : List Str} {sub_Trap : List Value} {ab_Trap : Bool} {col_Trap : Option Bool} {dd_Trap : Option Addr} {m0_Trap m1_Trap m2_Trap m3_Trap m5_Trap : Option Value}
    (xl_Trap : K.lookup cC_Trap = some (excClassObj nm_Trap qn_Trap cC_Trap N_Trap bs_Trap [.ref cC_HostError, .type "ValueError", .type "Exception", .type "BaseException", .type "object"] true sn_Trap sub_Trap ab_Trap col_Trap dd_Trap m0_Trap m1_Trap m2_Trap m3_Trap m5_Trap "ValueError.__new__"))
    (sa_Trap : PySem.W.findIn K (.ref cC_Trap) "__setattr__" = some (some (.builtin "object.__setattr__")))
    (ga_Trap : PySem.W.findIn K (.ref cC_Trap) "__getattribute__" = some (some (.builtin "BaseException.__getattribute__")))
    (gg_Trap : PySem.W.findIn K (.ref cC_Trap) "__getattr__" = some none)
    (ca_Trap : PySem.W.findIn K (.ref cC_Trap) "__class__" = some (some (.builtin "object.__class__")))
    (kp_Trap : PySem.W.keepIn K (.ref cC_Trap) = true)
    (mr_Trap : PySem.W.mroIn K cC_Trap (.type "object") = some true)
    {odI_Trap anI_Trap : Option Addr} {slI_Trap : Array (Option Value)} {ocI_Trap kVI_Trap dcI_Trap pmI_Trap cdI_Trap ctI_Trap : Value}
    (aI_Trap : PySem.W.findIn K (.ref cC_Trap) "__init__" = some (some (.ref cI_Trap))) (tI_Trap : PySem.W.typeIn K (.ref cI_Trap) = some (.type "function"))
    (lI_Trap : K.lookup cI_Trap = some ⟨ocI_Trap, odI_Trap, .func (PySem.W.fnOf "__init__" "Trap.__init__" (defArgs i_Trap) (defBody i_Trap) (defScope i_Trap) .none kVI_Trap dcI_Trap pmI_Trap anI_Trap cdI_Trap ctI_Trap), slI_Trap⟩) (cdo_Trap : PySem.W.codeIn K cdI_Trap "Trap.__init__" = true) (kI_Trap : PySem.W.keepIn K (.ref cI_Trap) = true)
    (no_Trap_reason : PySem.W.findIn K (.ref cC_Trap) "reason" = some none)
    (sub_Trap_HostError : PySem.W.subIn K (.ref cC_Trap) (.ref cC_HostError) = some true) (ne_Trap_HostError : (Value.ref cC_Trap == Value.ref cC_HostError) = false)
    (sub_Trap_Trap : PySem.W.subIn K (.ref cC_Trap) (.ref cC_Trap) = some true)
    (sub_Trap_UnknownInstruction : PySem.W.subIn K (.ref cC_Trap) (.ref cC_UnknownInstruction) = some false) (ne_Trap_UnknownInstruction : (Value.ref cC_Trap == Value.ref cC_UnknownInstruction) = false)
    (sub_Trap_BadValues : PySem.W.subIn K (.ref cC_Trap) (.ref cC_BadValues) = some false) (ne_Trap_BadValues : (Value.ref cC_Trap == Value.ref cC_BadValues) = false)
    (sub_Trap_VE : PySem.W.subIn K (.ref cC_Trap) (.type "ValueError") = some true)
    {nm_UnknownInstruction qn_UnknownInstruction : Str} {N_UnknownInstruction : Addr} {bs_UnknownInstruction : List Value} {sn_UnknownInstruction : List Str} {sub_UnknownInstruction : List Value} {ab_UnknownInstruction : Bool} {col_UnknownInstruction : Option Bool} {dd_UnknownInstruction : Option Addr} {m0_UnknownInstruction m1_UnknownInstruction m2_UnknownInstruction m3_UnknownInstruction m5_UnknownInstruction : Option Value}
    (xl_UnknownInstruction : K.lookup cC_UnknownInstruction = some (excClassObj nm_UnknownInstruction qn_UnknownInstruction cC_UnknownInstruction N_UnknownInstruction bs_UnknownInstruction [.ref cC_HostError, .type "ValueError", .type "Exception", .type "BaseException", .type "object"] true sn_UnknownInstruction sub_UnknownInstruction ab_UnknownInstruction col_UnknownInstruction dd_UnknownInstruction m0_UnknownInstruction m1_UnknownInstruction m2_UnknownInstruction m3_UnknownInstruction m5_UnknownInstruction "ValueError.__new__"))
    (sa_UnknownInstruction : PySem.W.findIn K (.ref cC_UnknownInstruction) "__setattr__" = some (some (.builtin "object.__setattr__")))
    (ga_UnknownInstruction : PySem.W.findIn K (.ref cC_UnknownInstruction) "__getattribute__" = some (some (.builtin "BaseException.__getattribute__")))
    (gg_UnknownInstruction : PySem.W.findIn K (.ref cC_UnknownInstruction) "__getattr__" = some none)
    (ca_UnknownInstruction : PySem.W.findIn K (.ref cC_UnknownInstruction) "__class__" = some (some (.builtin "object.__class__")))
    (kp_UnknownInstruction : PySem.W.keepIn K (.ref cC_UnknownInstruction) = true)
    (mr_UnknownInstruction : PySem.W.mroIn K cC_UnknownInstruction (.type "object") = some true)
    {odI_UnknownInstruction anI_UnknownInstruction : Option Addr} {slI_UnknownInstruction : Array (Option Value)} {ocI_UnknownInstruction kVI_UnknownInstruction dcI_UnknownInstruction pmI_UnknownInstruction cdI_UnknownInstruction ctI_UnknownInstruction : Value}
    (aI_UnknownInstruction : PySem.W.findIn K (.ref cC_UnknownInstruction) "__init__" = some (some (.ref cI_UnknownInstruction))) (tI_UnknownInstruction : PySem.W.typeIn K (.ref cI_UnknownInstruction) = some (.type "function"))
    (lI_UnknownInstruction : K.lookup cI_UnknownInstruction = some ⟨ocI_UnknownInstruction, odI_UnknownInstruction, .func (PySem.W.fnOf "__init__" "UnknownInstruction.__init__" (defArgs i_UnknownInstruction) (defBody i_UnknownInstruction) (defScope i_UnknownInstruction) .none kVI_UnknownInstruction dcI_UnknownInstruction pmI_UnknownInstruction anI_UnknownInstruction cdI_UnknownInstruction ctI_UnknownInstruction), slI_UnknownInstruction⟩) (cdo_UnknownInstruction : PySem.W.codeIn K cdI_UnknownInstruction "UnknownInstruction.__init__" = true) (kI_UnknownInstruction : PySem.W.keepIn K (.ref cI_UnknownInstruction) = true)
    (no_UnknownInstruction_name : PySem.W.findIn K (.ref cC_UnknownInstruction) "name" = some none)
    (sub_UnknownInstruction_HostError : PySem.W.subIn K (.ref cC_UnknownInstruction) (.ref cC_HostError) = some true) (ne_UnknownInstruction_HostError : (Value.ref cC_UnknownInstruction == Value.ref cC_HostError) = false)
    (sub_UnknownInstruction_Trap : PySem.W.subIn K (.ref cC_UnknownInstruction) (.ref cC_Trap) = some false) (ne_UnknownInstruction_Trap : (Value.ref cC_UnknownInstruction == Value.ref cC_Trap) = false)
    (sub_UnknownInstruction_UnknownInstruction : PySem.W.subIn K (.ref cC_UnknownInstruction) (.ref cC_UnknownInstruction) = some true)
    (sub_UnknownInstruction_BadValues : PySem.W.subIn K (.ref cC_UnknownInstruction) (.ref cC_BadValues) = some false) (ne_UnknownInstruction_BadValues : (Value.ref cC_UnknownInstruction == Value.ref cC_BadValues) = false)
    (sub_UnknownInstruction_VE : PySem.W.subIn K (.ref cC_UnknownInstruction) (.type "ValueError") = some true)
    (x0_BadValues : PySem.W.excIn K cC_BadValues [.type "ValueError", .type "Exception", .type "BaseException", .type "object"] "ValueError.__new__" = true)
    (ga_BadValues : PySem.W.findIn K (.ref cC_BadValues) "__getattribute__" = some (some (.builtin "BaseException.__getattribute__")))
    (gg_BadValues : PySem.W.findIn K (.ref cC_BadValues) "__getattr__" = some none)
    (ca_BadValues : PySem.W.findIn K (.ref cC_BadValues) "__class__" = some (some (.builtin "object.__class__")))
    (kp_BadValues : PySem.W.keepIn K (.ref cC_BadValues) = true)
    (mr_BadValues : PySem.W.mroIn K cC_BadValues (.type "object") = some true)
    (sub_BadValues_HostError : PySem.W.subIn K (.ref cC_BadValues) (.ref cC_HostError) = some true) (ne_BadValues_HostError : (Value.ref cC_BadValues == Value.ref cC_HostError) = false)
    (sub_BadValues_Trap : PySem.W.subIn K (.ref cC_BadValues) (.ref cC_Trap) = some false) (ne_BadValues_Trap : (Value.ref cC_BadValues == Value.ref cC_Trap) = false)
    (sub_BadValues_UnknownInstruction : PySem.W.subIn K (.ref cC_BadValues) (.ref cC_UnknownInstruction) = some false) (ne_BadValues_UnknownInstruction : (Value.ref cC_BadValues == Value.ref cC_UnknownInstruction) = false)
    (sub_BadValues_BadValues : PySem.W.subIn K (.ref cC_BadValues) (.ref cC_BadValues) = some true)
    (sub_BadValues_VE : PySem.W.subIn K (.ref cC_BadValues) (.type "ValueError") = some true)
    {ct_INSTRUCTIONS ct_CONVERTED_KINDS ct_COMPARISONS ct_ONE_OPERAND ct_TWO_OPERANDS : Addr}
    (at_INSTRUCTIONS : PySem.W.nsIn K mainGlobals "INSTRUCTIONS" = some (some (.ref ct_INSTRUCTIONS)))
    {od_INSTRUCTIONS : Option Addr} {its_INSTRUCTIONS : Array Value} {n_INSTRUCTIONS : Nat} {sl_INSTRUCTIONS : Array (Option Value)} (lt_INSTRUCTIONS : K.lookup ct_INSTRUCTIONS = some ⟨.type "tuple", od_INSTRUCTIONS, .seq its_INSTRUCTIONS n_INSTRUCTIONS, sl_INSTRUCTIONS⟩) (zt_INSTRUCTIONS : its_INSTRUCTIONS.size ≤ sizeLine) (vt_INSTRUCTIONS : Vals (v_INSTRUCTIONS.map V.str) its_INSTRUCTIONS.toList)
    (at_CONVERTED_KINDS : PySem.W.nsIn K mainGlobals "CONVERTED_KINDS" = some (some (.ref ct_CONVERTED_KINDS)))
    {es_CONVERTED_KINDS : Array DictEntry} {n_CONVERTED_KINDS : Nat} (lt_CONVERTED_KINDS : K.lookup ct_CONVERTED_KINDS = some ⟨.type "dict", none, .dict es_CONVERTED_KINDS n_CONVERTED_KINDS, #[]⟩) (st_CONVERTED_KINDS : (ct_CONVERTED_KINDS == sysModules) = false)
    (at_COMPARISONS : PySem.W.nsIn K mainGlobals "COMPARISONS" = some (some (.ref ct_COMPARISONS)))
    {od_COMPARISONS : Option Addr} {its_COMPARISONS : Array Value} {n_COMPARISONS : Nat} {sl_COMPARISONS : Array (Option Value)} (lt_COMPARISONS : K.lookup ct_COMPARISONS = some ⟨.type "tuple", od_COMPARISONS, .seq its_COMPARISONS n_COMPARISONS, sl_COMPARISONS⟩) (zt_COMPARISONS : its_COMPARISONS.size ≤ sizeLine) (vt_COMPARISONS : Vals (v_COMPARISONS.map V.str) its_COMPARISONS.toList)
    (at_ONE_OPERAND : PySem.W.nsIn K mainGlobals "ONE_OPERAND" = some (some (.ref ct_ONE_OPERAND)))
    {es_ONE_OPERAND : Array DictEntry} {n_ONE_OPERAND : Nat} (lt_ONE_OPERAND : K.lookup ct_ONE_OPERAND = some ⟨.type "dict", none, .dict es_ONE_OPERAND n_ONE_OPERAND, #[]⟩) (st_ONE_OPERAND : (ct_ONE_OPERAND == sysModules) = false)
    (at_TWO_OPERANDS : PySem.W.nsIn K mainGlobals "TWO_OPERANDS" = some (some (.ref ct_TWO_OPERANDS)))
    {es_TWO_OPERANDS : Array DictEntry} {n_TWO_OPERANDS : Nat} (lt_TWO_OPERANDS : K.lookup ct_TWO_OPERANDS = some ⟨.type "dict", none, .dict es_TWO_OPERANDS n_TWO_OPERANDS, #[]⟩) (st_TWO_OPERANDS : (ct_TWO_OPERANDS == sysModules) = false)
    (vt_CONVERTED_KINDS : Rows w.params es_CONVERTED_KINDS.toList (v_CONVERTED_KINDS (⟨cC_HostError, cC_Trap, cI_Trap, (PySem.W.fnOf "__init__" "Trap.__init__" (defArgs i_Trap) (defBody i_Trap) (defScope i_Trap) .none kVI_Trap dcI_Trap pmI_Trap anI_Trap cdI_Trap ctI_Trap), cC_UnknownInstruction, cI_UnknownInstruction, (PySem.W.fnOf "__init__" "UnknownInstruction.__init__" (defArgs i_UnknownInstruction) (defBody i_UnknownInstruction) (defScope i_UnknownInstruction) .none kVI_UnknownInstruction dcI_UnknownInstruction pmI_UnknownInstruction anI_UnknownInstruction cdI_UnknownInstruction ctI_UnknownInstruction), cC_BadValues, ct_INSTRUCTIONS, ct_CONVERTED_KINDS, ct_COMPARISONS, ct_ONE_OPERAND, ct_TWO_OPERANDS, f24, f26, f27, f28, f29, f30, f31, f32, f4, f5, f6, f8, f7, f9, f10, f11, f12, f13, f14, f16, f17, f18, f19, f20, f21, f22, f23⟩ : Cs)))
    (vt_ONE_OPERAND : Rows w.params es_ONE_OPERAND.toList (v_ONE_OPERAND (⟨cC_HostError, cC_Trap, cI_Trap, (PySem.W.fnOf "__init__" "Trap.__init__" (defArgs i_Trap) (defBody i_Trap) (defScope i_Trap) .none kVI_Trap dcI_Trap pmI_Trap anI_Trap cdI_Trap ctI_Trap), cC_UnknownInstruction, cI_UnknownInstruction, (PySem.W.fnOf "__init__" "UnknownInstruction.__init__" (defArgs i_UnknownInstruction) (defBody i_UnknownInstruction) (defScope i_UnknownInstruction) .none kVI_UnknownInstruction dcI_UnknownInstruction pmI_UnknownInstruction anI_UnknownInstruction cdI_UnknownInstruction ctI_UnknownInstruction), cC_BadValues, ct_INSTRUCTIONS, ct_CONVERTED_KINDS, ct_COMPARISONS, ct_ONE_OPERAND, ct_TWO_OPERANDS, f24, f26, f27, f28, f29, f30, f31, f32, f4, f5, f6, f8, f7, f9, f10, f11, f12, f13, f14, f16, f17, f18, f19, f20, f21, f22, f23⟩ : Cs)))
    (vt_TWO_OPERANDS : Rows w.params es_TWO_OPERANDS.toList (v_TWO_OPERANDS (⟨cC_HostError, cC_Trap, cI_Trap, (PySem.W.fnOf "__init__" "Trap.__init__" (defArgs i_Trap) (defBody i_Trap) (defScope i_Trap) .none kVI_Trap dcI_Trap pmI_Trap anI_Trap cdI_Trap ctI_Trap), cC_UnknownInstruction, cI_UnknownInstruction, (PySem.W.fnOf "__init__" "UnknownInstruction.__init__" (defArgs i_UnknownInstruction) (defBody i_UnknownInstruction) (defScope i_UnknownInstruction) .none kVI_UnknownInstruction dcI_UnknownInstruction pmI_UnknownInstruction anI_UnknownInstruction cdI_UnknownInstruction ctI_UnknownInstruction), cC_BadValues, ct_INSTRUCTIONS, ct_CONVERTED_KINDS, ct_COMPARISONS, ct_ONE_OPERAND, ct_TWO_OPERANDS, f24, f26, f27, f28, f29, f30, f31, f32, f4, f5, f6, f8, f7, f9, f10, f11, f12, f13, f14, f16, f17, f18, f19, f20, f21, f22, f23⟩ : Cs)))
    : ∃ fd : FuncData, (∀ (s : Shared) (v : Value), BindsTo s fd ⟨[v], []⟩ [("script", v)]) ∧ ∀ base : Heap, K.In base → base.Ns mainGlobals mg → FnOk l.prog w K mg base CX0 7 fa fd ["script"] (sp_lawK K) := by
  have e := hfa.symm.trans (PySem.W.mg_of X G a48)
  cases e
  have FI_Trap := fun_mk (st := i_Trap) lI_Trap cdo_Trap kI_Trap
  have FI_UnknownInstruction := fun_mk (st := i_UnknownInstruction) lI_UnknownInstruction cdo_UnknownInstruction kI_UnknownInstruction
  have T : Tp w K mg (⟨cC_HostError, cC_Trap, cI_Trap, (PySem.W.fnOf "__init__" "Trap.__init__" (defArgs i_Trap) (defBody i_Trap) (defScope i_Trap) .none kVI_Trap dcI_Trap pmI_Trap anI_Trap cdI_Trap ctI_Trap), cC_UnknownInstruction, cI_UnknownInstruction, (PySem.W.fnOf "__init__" "UnknownInstruction.__init__" (defArgs i_UnknownInstruction) (defBody i_UnknownInstruction) (defScope i_UnknownInstruction) .none kVI_UnknownInstruction dcI_UnknownInstruction pmI_UnknownInstruction anI_UnknownInstruction cdI_UnknownInstruction ctI_UnknownInstruction), cC_BadValues, ct_INSTRUCTIONS, ct_CONVERTED_KINDS, ct_COMPARISONS, ct_ONE_OPERAND, ct_TWO_OPERANDS, f24, f26, f27, f28, f29, f30, f31, f32, f4, f5, f6, f8, f7, f9, f10, f11, f12, f13, f14, f16, f17, f18, f19, f20, f21, f22, f23⟩ : Cs) := ⟨PySem.W.mg_none_of X G z_abs, PySem.W.mg_none_of X G z_bool, PySem.W.mg_none_of X G z_int, PySem.W.mg_none_of X G z_isinstance, PySem.W.mg_none_of X G z_len, PySem.W.mg_none_of X G z_list, PySem.W.mg_none_of X G z_max, PySem.W.mg_none_of X G z_min, PySem.W.mg_none_of X G z_range, PySem.W.mg_none_of X G z_str, PySem.W.mg_none_of X G z_tuple, PySem.W.mg_none_of X G z_zip, PySem.W.mg_of X G aC_HostError, PySem.W.mg_of X G aC_Trap, ⟨PySem.W.mg_of X G aC_Trap, ⟨⟨nm_Trap, qn_Trap, N_Trap, bs_Trap, _, sn_Trap, sub_Trap, ab_Trap, col_Trap, dd_Trap, m0_Trap, m1_Trap, m2_Trap, m3_Trap, m5_Trap, xl_Trap, by rfl⟩, sa_Trap, ex_Trap, ty_Trap, kp_Trap⟩, ga_Trap, gg_Trap, hd_Trap, ca_Trap, sp0, tk0, mr_Trap⟩, aI_Trap, tI_Trap, FI_Trap, FI_Trap.binds (ps := ["self", "reason"]) fun _ _ _ _ _ _ us hl => match us, hl with | [_, _], _ => rfl, no_Trap_reason, kit_two ne_Trap_HostError hd_HostError ty_HostError sub_Trap_HostError, PySem.W.exm_ref ex_HostError hd_HostError ty_HostError sub_Trap_HostError, kit_self, PySem.W.exm_ref ex_Trap hd_Trap ty_Trap sub_Trap_Trap, kit_two ne_Trap_UnknownInstruction hd_UnknownInstruction ty_UnknownInstruction sub_Trap_UnknownInstruction, PySem.W.exm_ref ex_UnknownInstruction hd_UnknownInstruction ty_UnknownInstruction sub_Trap_UnknownInstruction, kit_two ne_Trap_BadValues hd_BadValues ty_BadValues sub_Trap_BadValues, PySem.W.exm_ref ex_BadValues hd_BadValues ty_BadValues sub_Trap_BadValues, kit_ve sub_Trap_VE, PySem.W.mg_of X G aC_UnknownInstruction, ⟨PySem.W.mg_of X G aC_UnknownInstruction, ⟨⟨nm_UnknownInstruction, qn_UnknownInstruction, N_UnknownInstruction, bs_UnknownInstruction, _, sn_UnknownInstruction, sub_UnknownInstruction, ab_UnknownInstruction, col_UnknownInstruction, dd_UnknownInstruction, m0_UnknownInstruction, m1_UnknownInstruction, m2_UnknownInstruction, m3_UnknownInstruction, m5_UnknownInstruction, xl_UnknownInstruction, by rfl⟩, sa_UnknownInstruction, ex_UnknownInstruction, ty_UnknownInstruction, kp_UnknownInstruction⟩, ga_UnknownInstruction, gg_UnknownInstruction, hd_UnknownInstruction, ca_UnknownInstruction, sp0, tk0, mr_UnknownInstruction⟩, aI_UnknownInstruction, tI_UnknownInstruction, FI_UnknownInstruction, FI_UnknownInstruction.binds (ps := ["self", "name"]) fun _ _ _ _ _ _ us hl => match us, hl with | [_, _], _ => rfl, no_UnknownInstruction_name, kit_two ne_UnknownInstruction_HostError hd_HostError ty_HostError sub_UnknownInstruction_HostError, PySem.W.exm_ref ex_HostError hd_HostError ty_HostError sub_UnknownInstruction_HostError, kit_two ne_UnknownInstruction_Trap hd_Trap ty_Trap sub_UnknownInstruction_Trap, PySem.W.exm_ref ex_Trap hd_Trap ty_Trap sub_UnknownInstruction_Trap, kit_self, PySem.W.exm_ref ex_UnknownInstruction hd_UnknownInstruction ty_UnknownInstruction sub_UnknownInstruction_UnknownInstruction, kit_two ne_UnknownInstruction_BadValues hd_BadValues ty_BadValues sub_UnknownInstruction_BadValues, PySem.W.exm_ref ex_BadValues hd_BadValues ty_BadValues sub_UnknownInstruction_BadValues, kit_ve sub_UnknownInstruction_VE, PySem.W.mg_of X G aC_BadValues, x0_BadValues, kp_BadValues, ex_BadValues, ty_BadValues, ⟨ga_BadValues, gg_BadValues, ex_BadValues, hd_BadValues, ca_BadValues, sp0, tk0, mr_BadValues⟩, kit_two ne_BadValues_HostError hd_HostError ty_HostError sub_BadValues_HostError, PySem.W.exm_ref ex_HostError hd_HostError ty_HostError sub_BadValues_HostError, kit_two ne_BadValues_Trap hd_Trap ty_Trap sub_BadValues_Trap, PySem.W.exm_ref ex_Trap hd_Trap ty_Trap sub_BadValues_Trap, kit_two ne_BadValues_UnknownInstruction hd_UnknownInstruction ty_UnknownInstruction sub_BadValues_UnknownInstruction, PySem.W.exm_ref ex_UnknownInstruction hd_UnknownInstruction ty_UnknownInstruction sub_BadValues_UnknownInstruction, kit_self, PySem.W.exm_ref ex_BadValues hd_BadValues ty_BadValues sub_BadValues_BadValues, kit_ve sub_BadValues_VE, PySem.W.mg_of X G at_INSTRUCTIONS, ⟨⟨_, _, _, lt_INSTRUCTIONS, rfl, rfl, zt_INSTRUCTIONS, vt_INSTRUCTIONS⟩⟩, PySem.W.mg_of X G at_CONVERTED_KINDS, ⟨⟨_, _, lt_CONVERTED_KINDS, st_CONVERTED_KINDS, vt_CONVERTED_KINDS⟩⟩, PySem.W.mg_of X G at_COMPARISONS, ⟨⟨_, _, _, lt_COMPARISONS, rfl, rfl, zt_COMPARISONS, vt_COMPARISONS⟩⟩, PySem.W.mg_of X G at_ONE_OPERAND, ⟨⟨_, _, lt_ONE_OPERAND, st_ONE_OPERAND, vt_ONE_OPERAND⟩⟩, PySem.W.mg_of X G at_TWO_OPERANDS, ⟨⟨_, _, lt_TWO_OPERANDS, st_TWO_OPERANDS, vt_TWO_OPERANDS⟩⟩, PySem.W.mg_of X G a24, PySem.W.mg_of X G a26, PySem.W.mg_of X G a27, PySem.W.mg_of X G a28, PySem.W.mg_of X G a29, PySem.W.mg_of X G a30, PySem.W.mg_of X G a31, PySem.W.mg_of X G a32, PySem.W.mg_of X G a4, PySem.W.mg_of X G a5, PySem.W.mg_of X G a6, PySem.W.mg_of X G a8, PySem.W.mg_of X G a7, PySem.W.mg_of X G a9, PySem.W.mg_of X G a10, PySem.W.mg_of X G a11, PySem.W.mg_of X G a12, PySem.W.mg_of X G a13, PySem.W.mg_of X G a14, PySem.W.mg_of X G a16, PySem.W.mg_of X G a17, PySem.W.mg_of X G a18, PySem.W.mg_of X G a19, PySem.W.mg_of X G a20, PySem.W.mg_of X G a21, PySem.W.mg_of X G a22, PySem.W.mg_of X G a23⟩
  have F0 := fun_mk (st := s_width) l0 c0 k0
  have D_width : Def K mg "width" s_width ["kind"] := ⟨_, _, F0, PySem.W.mg_of X G a0, F0.binds (ps := ["kind"]) fun _ _ _ _ _ _ us hl => match us, hl with | [_], _ => rfl⟩
  have F1 := fun_mk (st := s_unsigned) l1 c1 k1
  have D_unsigned : Def K mg "unsigned" s_unsigned ["kind", "number"] := ⟨_, _, F1, PySem.W.mg_of X G a1, F1.binds (ps := ["kind", "number"]) fun _ _ _ _ _ _ us hl => match us, hl with | [_, _], _ => rfl⟩
  have F2 := fun_mk (st := s_extend) l2 c2 k2
  have D_extend : Def K mg "extend" s_extend ["number", "bits"] := ⟨_, _, F2, PySem.W.mg_of X G a2, F2.binds (ps := ["number", "bits"]) fun _ _ _ _ _ _ us hl => match us, hl with | [_, _], _ => rfl⟩
  have F3 := fun_mk (st := s_signed) l3 c3 k3
  have D_signed : Def K mg "signed" s_signed ["kind", "number"] := ⟨_, _, F3, PySem.W.mg_of X G a3, F3.binds (ps := ["kind", "number"]) fun _ _ _ _ _ _ us hl => match us, hl with | [_, _], _ => rfl⟩
  have F4 := fun_mk (st := s_add) l4 c4 k4
  have D_add : Def K mg "add" s_add ["bits", "a", "b"] := ⟨_, _, F4, PySem.W.mg_of X G a4, F4.binds (ps := ["bits", "a", "b"]) fun _ _ _ _ _ _ us hl => match us, hl with | [_, _, _], _ => rfl⟩
  have F5 := fun_mk (st := s_sub) l5 c5 k5
  have D_sub : Def K mg "sub" s_sub ["bits", "a", "b"] := ⟨_, _, F5, PySem.W.mg_of X G a5, F5.binds (ps := ["bits", "a", "b"]) fun _ _ _ _ _ _ us hl => match us, hl with | [_, _, _], _ => rfl⟩
  have F6 := fun_mk (st := s_mul) l6 c6 k6
  have D_mul : Def K mg "mul" s_mul ["bits", "a", "b"] := ⟨_, _, F6, PySem.W.mg_of X G a6, F6.binds (ps := ["bits", "a", "b"]) fun _ _ _ _ _ _ us hl => match us, hl with | [_, _, _], _ => rfl⟩
  have F7 := fun_mk (st := s_quotient) l7 c7 k7
  have D_quotient : Def K mg "quotient" s_quotient ["bits", "a", "b"] := ⟨_, _, F7, PySem.W.mg_of X G a7, F7.binds (ps := ["bits", "a", "b"]) fun _ _ _ _ _ _ us hl => match us, hl with | [_, _, _], _ => rfl⟩
  have F8 := fun_mk (st := s_signed_quotient) l8 c8 k8
  have D_signed_quotient : Def K mg "signed_quotient" s_signed_quotient ["bits", "a", "b"] := ⟨_, _, F8, PySem.W.mg_of X G a8, F8.binds (ps := ["bits", "a", "b"]) fun _ _ _ _ _ _ us hl => match us, hl with | [_, _, _], _ => rfl⟩
  have F9 := fun_mk (st := s_remainder) l9 c9 k9
  have D_remainder : Def K mg "remainder" s_remainder ["bits", "a", "b"] := ⟨_, _, F9, PySem.W.mg_of X G a9, F9.binds (ps := ["bits", "a", "b"]) fun _ _ _ _ _ _ us hl => match us, hl with | [_, _, _], _ => rfl⟩
  have F10 := fun_mk (st := s_both) l10 c10 k10
  have D_both : Def K mg "both" s_both ["bits", "a", "b"] := ⟨_, _, F10, PySem.W.mg_of X G a10, F10.binds (ps := ["bits", "a", "b"]) fun _ _ _ _ _ _ us hl => match us, hl with | [_, _, _], _ => rfl⟩
  have F11 := fun_mk (st := s_either) l11 c11 k11
  have D_either : Def K mg "either" s_either ["bits", "a", "b"] := ⟨_, _, F11, PySem.W.mg_of X G a11, F11.binds (ps := ["bits", "a", "b"]) fun _ _ _ _ _ _ us hl => match us, hl with | [_, _, _], _ => rfl⟩
  have F12 := fun_mk (st := s_differing) l12 c12 k12
  have D_differing : Def K mg "differing" s_differing ["bits", "a", "b"] := ⟨_, _, F12, PySem.W.mg_of X G a12, F12.binds (ps := ["bits", "a", "b"]) fun _ _ _ _ _ _ us hl => match us, hl with | [_, _, _], _ => rfl⟩
  have F13 := fun_mk (st := s_shift_left) l13 c13 k13
  have D_shift_left : Def K mg "shift_left" s_shift_left ["bits", "a", "b"] := ⟨_, _, F13, PySem.W.mg_of X G a13, F13.binds (ps := ["bits", "a", "b"]) fun _ _ _ _ _ _ us hl => match us, hl with | [_, _, _], _ => rfl⟩
  have F14 := fun_mk (st := s_shift_right) l14 c14 k14
  have D_shift_right : Def K mg "shift_right" s_shift_right ["bits", "a", "b"] := ⟨_, _, F14, PySem.W.mg_of X G a14, F14.binds (ps := ["bits", "a", "b"]) fun _ _ _ _ _ _ us hl => match us, hl with | [_, _, _], _ => rfl⟩
  have F15 := fun_mk (st := s_rotate) l15 c15 k15
  have D_rotate : Def K mg "rotate" s_rotate ["bits", "a", "by"] := ⟨_, _, F15, PySem.W.mg_of X G a15, F15.binds (ps := ["bits", "a", "by"]) fun _ _ _ _ _ _ us hl => match us, hl with | [_, _, _], _ => rfl⟩
  have F16 := fun_mk (st := s_rotate_left) l16 c16 k16
  have D_rotate_left : Def K mg "rotate_left" s_rotate_left ["bits", "a", "b"] := ⟨_, _, F16, PySem.W.mg_of X G a16, F16.binds (ps := ["bits", "a", "b"]) fun _ _ _ _ _ _ us hl => match us, hl with | [_, _, _], _ => rfl⟩
  have F17 := fun_mk (st := s_rotate_right) l17 c17 k17
  have D_rotate_right : Def K mg "rotate_right" s_rotate_right ["bits", "a", "b"] := ⟨_, _, F17, PySem.W.mg_of X G a17, F17.binds (ps := ["bits", "a", "b"]) fun _ _ _ _ _ _ us hl => match us, hl with | [_, _, _], _ => rfl⟩
  have F18 := fun_mk (st := s_same) l18 c18 k18
  have D_same : Def K mg "same" s_same ["bits", "a", "b"] := ⟨_, _, F18, PySem.W.mg_of X G a18, F18.binds (ps := ["bits", "a", "b"]) fun _ _ _ _ _ _ us hl => match us, hl with | [_, _, _], _ => rfl⟩
  have F19 := fun_mk (st := s_other) l19 c19 k19
  have D_other : Def K mg "other" s_other ["bits", "a", "b"] := ⟨_, _, F19, PySem.W.mg_of X G a19, F19.binds (ps := ["bits", "a", "b"]) fun _ _ _ _ _ _ us hl => match us, hl with | [_, _, _], _ => rfl⟩
  have F20 := fun_mk (st := s_less) l20 c20 k20
  have D_less : Def K mg "less" s_less ["bits", "a", "b"] := ⟨_, _, F20, PySem.W.mg_of X G a20, F20.binds (ps := ["bits", "a", "b"]) fun _ _ _ _ _ _ us hl => match us, hl with | [_, _, _], _ => rfl⟩
  have F21 := fun_mk (st := s_greater) l21 c21 k21
  have D_greater : Def K mg "greater" s_greater ["bits", "a", "b"] := ⟨_, _, F21, PySem.W.mg_of X G a21, F21.binds (ps := ["bits", "a", "b"]) fun _ _ _ _ _ _ us hl => match us, hl with | [_, _, _], _ => rfl⟩
  have F22 := fun_mk (st := s_at_most) l22 c22 k22
  have D_at_most : Def K mg "at_most" s_at_most ["bits", "a", "b"] := ⟨_, _, F22, PySem.W.mg_of X G a22, F22.binds (ps := ["bits", "a", "b"]) fun _ _ _ _ _ _ us hl => match us, hl with | [_, _, _], _ => rfl⟩
  have F23 := fun_mk (st := s_at_least) l23 c23 k23
  have D_at_least : Def K mg "at_least" s_at_least ["bits", "a", "b"] := ⟨_, _, F23, PySem.W.mg_of X G a23, F23.binds (ps := ["bits", "a", "b"]) fun _ _ _ _ _ _ us hl => match us, hl with | [_, _, _], _ => rfl⟩
  have F24 := fun_mk (st := s_is_zero) l24 c24 k24
  have D_is_zero : Def K mg "is_zero" s_is_zero ["bits", "a"] := ⟨_, _, F24, PySem.W.mg_of X G a24, F24.binds (ps := ["bits", "a"]) fun _ _ _ _ _ _ us hl => match us, hl with | [_, _], _ => rfl⟩
  have F25 := fun_mk (st := s_low_bits) l25 c25 k25
  have D_low_bits : Def K mg "low_bits" s_low_bits ["bits", "a"] := ⟨_, _, F25, PySem.W.mg_of X G a25, F25.binds (ps := ["bits", "a"]) fun _ _ _ _ _ _ us hl => match us, hl with | [_, _], _ => rfl⟩
  have F26 := fun_mk (st := s_leading_zeros) l26 c26 k26
  have D_leading_zeros : Def K mg "leading_zeros" s_leading_zeros ["bits", "a"] := ⟨_, _, F26, PySem.W.mg_of X G a26, F26.binds (ps := ["bits", "a"]) fun _ _ _ _ _ _ us hl => match us, hl with | [_, _], _ => rfl⟩
  have F27 := fun_mk (st := s_trailing_zeros) l27 c27 k27
  have D_trailing_zeros : Def K mg "trailing_zeros" s_trailing_zeros ["bits", "a"] := ⟨_, _, F27, PySem.W.mg_of X G a27, F27.binds (ps := ["bits", "a"]) fun _ _ _ _ _ _ us hl => match us, hl with | [_, _], _ => rfl⟩
  have F28 := fun_mk (st := s_ones) l28 c28 k28
  have D_ones : Def K mg "ones" s_ones ["bits", "a"] := ⟨_, _, F28, PySem.W.mg_of X G a28, F28.binds (ps := ["bits", "a"]) fun _ _ _ _ _ _ us hl => match us, hl with | [_, _], _ => rfl⟩
  have F29 := fun_mk (st := s_extend_8) l29 c29 k29
  have D_extend_8 : Def K mg "extend_8" s_extend_8 ["bits", "a"] := ⟨_, _, F29, PySem.W.mg_of X G a29, F29.binds (ps := ["bits", "a"]) fun _ _ _ _ _ _ us hl => match us, hl with | [_, _], _ => rfl⟩
  have F30 := fun_mk (st := s_extend_16) l30 c30 k30
  have D_extend_16 : Def K mg "extend_16" s_extend_16 ["bits", "a"] := ⟨_, _, F30, PySem.W.mg_of X G a30, F30.binds (ps := ["bits", "a"]) fun _ _ _ _ _ _ us hl => match us, hl with | [_, _], _ => rfl⟩
  have F31 := fun_mk (st := s_extend_32) l31 c31 k31
  have D_extend_32 : Def K mg "extend_32" s_extend_32 ["bits", "a"] := ⟨_, _, F31, PySem.W.mg_of X G a31, F31.binds (ps := ["bits", "a"]) fun _ _ _ _ _ _ us hl => match us, hl with | [_, _], _ => rfl⟩
  have F32 := fun_mk (st := s_unchanged) l32 c32 k32
  have D_unchanged : Def K mg "unchanged" s_unchanged ["bits", "a"] := ⟨_, _, F32, PySem.W.mg_of X G a32, F32.binds (ps := ["bits", "a"]) fun _ _ _ _ _ _ us hl => match us, hl with | [_, _], _ => rfl⟩
  have F33 := fun_mk (st := s_signature_of) l33 c33 k33
  have D_signature_of : Def K mg "signature_of" s_signature_of ["name"] := ⟨_, _, F33, PySem.W.mg_of X G a33, F33.binds (ps := ["name"]) fun _ _ _ _ _ _ us hl => match us, hl with | [_], _ => rfl⟩
  have F34 := fun_mk (st := s_in_range) l34 c34 k34
  have D_in_range : Def K mg "in_range" s_in_range ["kinds", "operands"] := ⟨_, _, F34, PySem.W.mg_of X G a34, F34.binds (ps := ["kinds", "operands"]) fun _ _ _ _ _ _ us hl => match us, hl with | [_, _], _ => rfl⟩
  have F35 := fun_mk (st := s_forms_of) l35 c35 k35
  have D_forms_of : Def K mg "forms_of" s_forms_of ["kind", "word", "operands"] := ⟨_, _, F35, PySem.W.mg_of X G a35, F35.binds (ps := ["kind", "word", "operands"]) fun _ _ _ _ _ _ us hl => match us, hl with | [_, _, _], _ => rfl⟩
  have F36 := fun_mk (st := s_calculate) l36 c36 k36
  have D_calculate : Def K mg "calculate" s_calculate ["name", "operands"] := ⟨_, _, F36, PySem.W.mg_of X G a36, F36.binds (ps := ["name", "operands"]) fun _ _ _ _ _ _ us hl => match us, hl with | [_, _], _ => rfl⟩
  have F37 := fun_mk (st := s__law_is_integer) l37 c37 k37
  have D__law_is_integer : Def K mg "_law_is_integer" s__law_is_integer ["actual"] := ⟨_, _, F37, PySem.W.mg_of X G a37, F37.binds (ps := ["actual"]) fun _ _ _ _ _ _ us hl => match us, hl with | [_], _ => rfl⟩
  have F38 := fun_mk (st := s__law_cell) l38 c38 k38
  have D__law_cell : Def K mg "_law_cell" s__law_cell ["script", "k"] := ⟨_, _, F38, PySem.W.mg_of X G a38, F38.binds (ps := ["script", "k"]) fun _ _ _ _ _ _ us hl => match us, hl with | [_, _], _ => rfl⟩
  have F39 := fun_mk (st := s__law_signed) l39 c39 k39
  have D__law_signed : Def K mg "_law_signed" s__law_signed ["number", "bits"] := ⟨_, _, F39, PySem.W.mg_of X G a39, F39.binds (ps := ["number", "bits"]) fun _ _ _ _ _ _ us hl => match us, hl with | [_, _], _ => rfl⟩
  have F40 := fun_mk (st := s__law_value) l40 c40 k40
  have D__law_value : Def K mg "_law_value" s__law_value ["cell", "bits"] := ⟨_, _, F40, PySem.W.mg_of X G a40, F40.binds (ps := ["cell", "bits"]) fun _ _ _ _ _ _ us hl => match us, hl with | [_, _], _ => rfl⟩
  have F41 := fun_mk (st := s__law_params) l41 c41 k41
  have D__law_params : Def K mg "_law_params" s__law_params ["name"] := ⟨_, _, F41, PySem.W.mg_of X G a41, F41.binds (ps := ["name"]) fun _ _ _ _ _ _ us hl => match us, hl with | [_], _ => rfl⟩
  have F42 := fun_mk (st := s__law_names) l42 c42 k42
  have D__law_names : Def K mg "_law_names" s__law_names [] := ⟨_, _, F42, PySem.W.mg_of X G a42, F42.binds (ps := []) fun _ _ _ _ _ _ us hl => match us, hl with | [], _ => rfl⟩
  have F43 := fun_mk (st := s__law_char) l43 c43 k43
  have D__law_char : Def K mg "_law_char" s__law_char ["cell"] := ⟨_, _, F43, PySem.W.mg_of X G a43, F43.binds (ps := ["cell"]) fun _ _ _ _ _ _ us hl => match us, hl with | [_], _ => rfl⟩
  have F44 := fun_mk (st := s__law_edited) l44 c44 k44
  have D__law_edited : Def K mg "_law_edited" s__law_edited ["name", "cell"] := ⟨_, _, F44, PySem.W.mg_of X G a44, F44.binds (ps := ["name", "cell"]) fun _ _ _ _ _ _ us hl => match us, hl with | [_, _], _ => rfl⟩
  have F45 := fun_mk (st := s__law_operand) l45 c45 k45
  have D__law_operand : Def K mg "_law_operand" s__law_operand ["cell", "kind"] := ⟨_, _, F45, PySem.W.mg_of X G a45, F45.binds (ps := ["cell", "kind"]) fun _ _ _ _ _ _ us hl => match us, hl with | [_, _], _ => rfl⟩
  have F46 := fun_mk (st := s__law_fits) l46 c46 k46
  have D__law_fits : Def K mg "_law_fits" s__law_fits ["operands", "params"] := ⟨_, _, F46, PySem.W.mg_of X G a46, F46.binds (ps := ["operands", "params"]) fun _ _ _ _ _ _ us hl => match us, hl with | [_, _], _ => rfl⟩
  have F47 := fun_mk (st := s__law_class) l47 c47 k47
  have D__law_class : Def K mg "_law_class" s__law_class ["name", "operands"] := ⟨_, _, F47, PySem.W.mg_of X G a47, F47.binds (ps := ["name", "operands"]) fun _ _ _ _ _ _ us hl => match us, hl with | [_, _], _ => rfl⟩
  have F48 := fun_mk (st := s_law) l48 c48 k48
  refine ⟨PySem.W.fnOf "law" "law" (defArgs s_law) (defBody s_law) (defScope s_law) .none kV48 dc48 pm48 an48 cd48 ct48, fun s v => .of_eq rfl, fun base _ _ => ?_⟩
  have C__law_names : Cal l.prog w K mg base CX0 1 "_law_names" (sp__law_names K (⟨cC_HostError, cC_Trap, cI_Trap, (PySem.W.fnOf "__init__" "Trap.__init__" (defArgs i_Trap) (defBody i_Trap) (defScope i_Trap) .none kVI_Trap dcI_Trap pmI_Trap anI_Trap cdI_Trap ctI_Trap), cC_UnknownInstruction, cI_UnknownInstruction, (PySem.W.fnOf "__init__" "UnknownInstruction.__init__" (defArgs i_UnknownInstruction) (defBody i_UnknownInstruction) (defScope i_UnknownInstruction) .none kVI_UnknownInstruction dcI_UnknownInstruction pmI_UnknownInstruction anI_UnknownInstruction cdI_UnknownInstruction ctI_UnknownInstruction), cC_BadValues, ct_INSTRUCTIONS, ct_CONVERTED_KINDS, ct_COMPARISONS, ct_ONE_OPERAND, ct_TWO_OPERANDS, f24, f26, f27, f28, f29, f30, f31, f32, f4, f5, f6, f8, f7, f9, f10, f11, f12, f13, f14, f16, f17, f18, f19, f20, f21, f22, f23⟩ : Cs)) := c__law_names D__law_names T 
  have C__law_cell : Cal l.prog w K mg base CX0 1 "_law_cell" (sp__law_cell K (⟨cC_HostError, cC_Trap, cI_Trap, (PySem.W.fnOf "__init__" "Trap.__init__" (defArgs i_Trap) (defBody i_Trap) (defScope i_Trap) .none kVI_Trap dcI_Trap pmI_Trap anI_Trap cdI_Trap ctI_Trap), cC_UnknownInstruction, cI_UnknownInstruction, (PySem.W.fnOf "__init__" "UnknownInstruction.__init__" (defArgs i_UnknownInstruction) (defBody i_UnknownInstruction) (defScope i_UnknownInstruction) .none kVI_UnknownInstruction dcI_UnknownInstruction pmI_UnknownInstruction anI_UnknownInstruction cdI_UnknownInstruction ctI_UnknownInstruction), cC_BadValues, ct_INSTRUCTIONS, ct_CONVERTED_KINDS, ct_COMPARISONS, ct_ONE_OPERAND, ct_TWO_OPERANDS, f24, f26, f27, f28, f29, f30, f31, f32, f4, f5, f6, f8, f7, f9, f10, f11, f12, f13, f14, f16, f17, f18, f19, f20, f21, f22, f23⟩ : Cs)) := c__law_cell D__law_cell T 
  have C__law_params : Cal l.prog w K mg base CX0 1 "_law_params" (sp__law_params K (⟨cC_HostError, cC_Trap, cI_Trap, (PySem.W.fnOf "__init__" "Trap.__init__" (defArgs i_Trap) (defBody i_Trap) (defScope i_Trap) .none kVI_Trap dcI_Trap pmI_Trap anI_Trap cdI_Trap ctI_Trap), cC_UnknownInstruction, cI_UnknownInstruction, (PySem.W.fnOf "__init__" "UnknownInstruction.__init__" (defArgs i_UnknownInstruction) (defBody i_UnknownInstruction) (defScope i_UnknownInstruction) .none kVI_UnknownInstruction dcI_UnknownInstruction pmI_UnknownInstruction anI_UnknownInstruction cdI_UnknownInstruction ctI_UnknownInstruction), cC_BadValues, ct_INSTRUCTIONS, ct_CONVERTED_KINDS, ct_COMPARISONS, ct_ONE_OPERAND, ct_TWO_OPERANDS, f24, f26, f27, f28, f29, f30, f31, f32, f4, f5, f6, f8, f7, f9, f10, f11, f12, f13, f14, f16, f17, f18, f19, f20, f21, f22, f23⟩ : Cs)) := c__law_params D__law_params T 
  have C__law_char : Cal l.prog w K mg base CX0 1 "_law_char" (sp__law_char K (⟨cC_HostError, cC_Trap, cI_Trap, (PySem.W.fnOf "__init__" "Trap.__init__" (defArgs i_Trap) (defBody i_Trap) (defScope i_Trap) .none kVI_Trap dcI_Trap pmI_Trap anI_Trap cdI_Trap ctI_Trap), cC_UnknownInstruction, cI_UnknownInstruction, (PySem.W.fnOf "__init__" "UnknownInstruction.__init__" (defArgs i_UnknownInstruction) (defBody i_UnknownInstruction) (defScope i_UnknownInstruction) .none kVI_UnknownInstruction dcI_UnknownInstruction pmI_UnknownInstruction anI_UnknownInstruction cdI_UnknownInstruction ctI_UnknownInstruction), cC_BadValues, ct_INSTRUCTIONS, ct_CONVERTED_KINDS, ct_COMPARISONS, ct_ONE_OPERAND, ct_TWO_OPERANDS, f24, f26, f27, f28, f29, f30, f31, f32, f4, f5, f6, f8, f7, f9, f10, f11, f12, f13, f14, f16, f17, f18, f19, f20, f21, f22, f23⟩ : Cs)) := c__law_char D__law_char T 
  have C__law_edited : Cal l.prog w K mg base CX0 2 "_law_edited" (sp__law_edited K (⟨cC_HostError, cC_Trap, cI_Trap, (PySem.W.fnOf "__init__" "Trap.__init__" (defArgs i_Trap) (defBody i_Trap) (defScope i_Trap) .none kVI_Trap dcI_Trap pmI_Trap anI_Trap cdI_Trap ctI_Trap), cC_UnknownInstruction, cI_UnknownInstruction, (PySem.W.fnOf "__init__" "UnknownInstruction.__init__" (defArgs i_UnknownInstruction) (defBody i_UnknownInstruction) (defScope i_UnknownInstruction) .none kVI_UnknownInstruction dcI_UnknownInstruction pmI_UnknownInstruction anI_UnknownInstruction cdI_UnknownInstruction ctI_UnknownInstruction), cC_BadValues, ct_INSTRUCTIONS, ct_CONVERTED_KINDS, ct_COMPARISONS, ct_ONE_OPERAND, ct_TWO_OPERANDS, f24, f26, f27, f28, f29, f30, f31, f32, f4, f5, f6, f8, f7, f9, f10, f11, f12, f13, f14, f16, f17, f18, f19, f20, f21, f22, f23⟩ : Cs)) := c__law_edited D__law_edited T C__law_char
  have C__law_signed : Cal l.prog w K mg base CX0 1 "_law_signed" (sp__law_signed K (⟨cC_HostError, cC_Trap, cI_Trap, (PySem.W.fnOf "__init__" "Trap.__init__" (defArgs i_Trap) (defBody i_Trap) (defScope i_Trap) .none kVI_Trap dcI_Trap pmI_Trap anI_Trap cdI_Trap ctI_Trap), cC_UnknownInstruction, cI_UnknownInstruction, (PySem.W.fnOf "__init__" "UnknownInstruction.__init__" (defArgs i_UnknownInstruction) (defBody i_UnknownInstruction) (defScope i_UnknownInstruction) .none kVI_UnknownInstruction dcI_UnknownInstruction pmI_UnknownInstruction anI_UnknownInstruction cdI_UnknownInstruction ctI_UnknownInstruction), cC_BadValues, ct_INSTRUCTIONS, ct_CONVERTED_KINDS, ct_COMPARISONS, ct_ONE_OPERAND, ct_TWO_OPERANDS, f24, f26, f27, f28, f29, f30, f31, f32, f4, f5, f6, f8, f7, f9, f10, f11, f12, f13, f14, f16, f17, f18, f19, f20, f21, f22, f23⟩ : Cs)) := c__law_signed D__law_signed T 
  have C__law_fits : Cal l.prog w K mg base CX0 2 "_law_fits" (sp__law_fits K (⟨cC_HostError, cC_Trap, cI_Trap, (PySem.W.fnOf "__init__" "Trap.__init__" (defArgs i_Trap) (defBody i_Trap) (defScope i_Trap) .none kVI_Trap dcI_Trap pmI_Trap anI_Trap cdI_Trap ctI_Trap), cC_UnknownInstruction, cI_UnknownInstruction, (PySem.W.fnOf "__init__" "UnknownInstruction.__init__" (defArgs i_UnknownInstruction) (defBody i_UnknownInstruction) (defScope i_UnknownInstruction) .none kVI_UnknownInstruction dcI_UnknownInstruction pmI_UnknownInstruction anI_UnknownInstruction cdI_UnknownInstruction ctI_UnknownInstruction), cC_BadValues, ct_INSTRUCTIONS, ct_CONVERTED_KINDS, ct_COMPARISONS, ct_ONE_OPERAND, ct_TWO_OPERANDS, f24, f26, f27, f28, f29, f30, f31, f32, f4, f5, f6, f8, f7, f9, f10, f11, f12, f13, f14, f16, f17, f18, f19, f20, f21, f22, f23⟩ : Cs)) := c__law_fits D__law_fits T C__law_signed
  have C__law_is_integer : Cal l.prog w K mg base CX0 1 "_law_is_integer" (sp__law_is_integer K (⟨cC_HostError, cC_Trap, cI_Trap, (PySem.W.fnOf "__init__" "Trap.__init__" (defArgs i_Trap) (defBody i_Trap) (defScope i_Trap) .none kVI_Trap dcI_Trap pmI_Trap anI_Trap cdI_Trap ctI_Trap), cC_UnknownInstruction, cI_UnknownInstruction, (PySem.W.fnOf "__init__" "UnknownInstruction.__init__" (defArgs i_UnknownInstruction) (defBody i_UnknownInstruction) (defScope i_UnknownInstruction) .none kVI_UnknownInstruction dcI_UnknownInstruction pmI_UnknownInstruction anI_UnknownInstruction cdI_UnknownInstruction ctI_UnknownInstruction), cC_BadValues, ct_INSTRUCTIONS, ct_CONVERTED_KINDS, ct_COMPARISONS, ct_ONE_OPERAND, ct_TWO_OPERANDS, f24, f26, f27, f28, f29, f30, f31, f32, f4, f5, f6, f8, f7, f9, f10, f11, f12, f13, f14, f16, f17, f18, f19, f20, f21, f22, f23⟩ : Cs)) := c__law_is_integer D__law_is_integer T 
  have C_signature_of : Cal l.prog w K mg base (L2.CX l.prog w) 3 "signature_of" (sp_signature_of K (⟨cC_HostError, cC_Trap, cI_Trap, (PySem.W.fnOf "__init__" "Trap.__init__" (defArgs i_Trap) (defBody i_Trap) (defScope i_Trap) .none kVI_Trap dcI_Trap pmI_Trap anI_Trap cdI_Trap ctI_Trap), cC_UnknownInstruction, cI_UnknownInstruction, (PySem.W.fnOf "__init__" "UnknownInstruction.__init__" (defArgs i_UnknownInstruction) (defBody i_UnknownInstruction) (defScope i_UnknownInstruction) .none kVI_UnknownInstruction dcI_UnknownInstruction pmI_UnknownInstruction anI_UnknownInstruction cdI_UnknownInstruction ctI_UnknownInstruction), cC_BadValues, ct_INSTRUCTIONS, ct_CONVERTED_KINDS, ct_COMPARISONS, ct_ONE_OPERAND, ct_TWO_OPERANDS, f24, f26, f27, f28, f29, f30, f31, f32, f4, f5, f6, f8, f7, f9, f10, f11, f12, f13, f14, f16, f17, f18, f19, f20, f21, f22, f23⟩ : Cs)) := c_signature_of D_signature_of T 
  have C_width : Cal l.prog w K mg base CX0 1 "width" (sp_width K (⟨cC_HostError, cC_Trap, cI_Trap, (PySem.W.fnOf "__init__" "Trap.__init__" (defArgs i_Trap) (defBody i_Trap) (defScope i_Trap) .none kVI_Trap dcI_Trap pmI_Trap anI_Trap cdI_Trap ctI_Trap), cC_UnknownInstruction, cI_UnknownInstruction, (PySem.W.fnOf "__init__" "UnknownInstruction.__init__" (defArgs i_UnknownInstruction) (defBody i_UnknownInstruction) (defScope i_UnknownInstruction) .none kVI_UnknownInstruction dcI_UnknownInstruction pmI_UnknownInstruction anI_UnknownInstruction cdI_UnknownInstruction ctI_UnknownInstruction), cC_BadValues, ct_INSTRUCTIONS, ct_CONVERTED_KINDS, ct_COMPARISONS, ct_ONE_OPERAND, ct_TWO_OPERANDS, f24, f26, f27, f28, f29, f30, f31, f32, f4, f5, f6, f8, f7, f9, f10, f11, f12, f13, f14, f16, f17, f18, f19, f20, f21, f22, f23⟩ : Cs)) := c_width D_width T 
  have C_unsigned : Cal l.prog w K mg base CX0 2 "unsigned" (sp_unsigned K (⟨cC_HostError, cC_Trap, cI_Trap, (PySem.W.fnOf "__init__" "Trap.__init__" (defArgs i_Trap) (defBody i_Trap) (defScope i_Trap) .none kVI_Trap dcI_Trap pmI_Trap anI_Trap cdI_Trap ctI_Trap), cC_UnknownInstruction, cI_UnknownInstruction, (PySem.W.fnOf "__init__" "UnknownInstruction.__init__" (defArgs i_UnknownInstruction) (defBody i_UnknownInstruction) (defScope i_UnknownInstruction) .none kVI_UnknownInstruction dcI_UnknownInstruction pmI_UnknownInstruction anI_UnknownInstruction cdI_UnknownInstruction ctI_UnknownInstruction), cC_BadValues, ct_INSTRUCTIONS, ct_CONVERTED_KINDS, ct_COMPARISONS, ct_ONE_OPERAND, ct_TWO_OPERANDS, f24, f26, f27, f28, f29, f30, f31, f32, f4, f5, f6, f8, f7, f9, f10, f11, f12, f13, f14, f16, f17, f18, f19, f20, f21, f22, f23⟩ : Cs)) := c_unsigned D_unsigned T C_width
  have C_forms_of : Cal l.prog w K mg base CX0 3 "forms_of" (sp_forms_of K (⟨cC_HostError, cC_Trap, cI_Trap, (PySem.W.fnOf "__init__" "Trap.__init__" (defArgs i_Trap) (defBody i_Trap) (defScope i_Trap) .none kVI_Trap dcI_Trap pmI_Trap anI_Trap cdI_Trap ctI_Trap), cC_UnknownInstruction, cI_UnknownInstruction, (PySem.W.fnOf "__init__" "UnknownInstruction.__init__" (defArgs i_UnknownInstruction) (defBody i_UnknownInstruction) (defScope i_UnknownInstruction) .none kVI_UnknownInstruction dcI_UnknownInstruction pmI_UnknownInstruction anI_UnknownInstruction cdI_UnknownInstruction ctI_UnknownInstruction), cC_BadValues, ct_INSTRUCTIONS, ct_CONVERTED_KINDS, ct_COMPARISONS, ct_ONE_OPERAND, ct_TWO_OPERANDS, f24, f26, f27, f28, f29, f30, f31, f32, f4, f5, f6, f8, f7, f9, f10, f11, f12, f13, f14, f16, f17, f18, f19, f20, f21, f22, f23⟩ : Cs)) := c_forms_of D_forms_of T C_unsigned
  have C_extend : Cal l.prog w K mg base CX0 1 "extend" (sp_extend K (⟨cC_HostError, cC_Trap, cI_Trap, (PySem.W.fnOf "__init__" "Trap.__init__" (defArgs i_Trap) (defBody i_Trap) (defScope i_Trap) .none kVI_Trap dcI_Trap pmI_Trap anI_Trap cdI_Trap ctI_Trap), cC_UnknownInstruction, cI_UnknownInstruction, (PySem.W.fnOf "__init__" "UnknownInstruction.__init__" (defArgs i_UnknownInstruction) (defBody i_UnknownInstruction) (defScope i_UnknownInstruction) .none kVI_UnknownInstruction dcI_UnknownInstruction pmI_UnknownInstruction anI_UnknownInstruction cdI_UnknownInstruction ctI_UnknownInstruction), cC_BadValues, ct_INSTRUCTIONS, ct_CONVERTED_KINDS, ct_COMPARISONS, ct_ONE_OPERAND, ct_TWO_OPERANDS, f24, f26, f27, f28, f29, f30, f31, f32, f4, f5, f6, f8, f7, f9, f10, f11, f12, f13, f14, f16, f17, f18, f19, f20, f21, f22, f23⟩ : Cs)) := c_extend D_extend T 
  have C_signed : Cal l.prog w K mg base CX0 2 "signed" (sp_signed K (⟨cC_HostError, cC_Trap, cI_Trap, (PySem.W.fnOf "__init__" "Trap.__init__" (defArgs i_Trap) (defBody i_Trap) (defScope i_Trap) .none kVI_Trap dcI_Trap pmI_Trap anI_Trap cdI_Trap ctI_Trap), cC_UnknownInstruction, cI_UnknownInstruction, (PySem.W.fnOf "__init__" "UnknownInstruction.__init__" (defArgs i_UnknownInstruction) (defBody i_UnknownInstruction) (defScope i_UnknownInstruction) .none kVI_UnknownInstruction dcI_UnknownInstruction pmI_UnknownInstruction anI_UnknownInstruction cdI_UnknownInstruction ctI_UnknownInstruction), cC_BadValues, ct_INSTRUCTIONS, ct_CONVERTED_KINDS, ct_COMPARISONS, ct_ONE_OPERAND, ct_TWO_OPERANDS, f24, f26, f27, f28, f29, f30, f31, f32, f4, f5, f6, f8, f7, f9, f10, f11, f12, f13, f14, f16, f17, f18, f19, f20, f21, f22, f23⟩ : Cs)) := c_signed D_signed T C_extend C_width
  have C_in_range : Cal l.prog w K mg base CX0 3 "in_range" (sp_in_range K (⟨cC_HostError, cC_Trap, cI_Trap, (PySem.W.fnOf "__init__" "Trap.__init__" (defArgs i_Trap) (defBody i_Trap) (defScope i_Trap) .none kVI_Trap dcI_Trap pmI_Trap anI_Trap cdI_Trap ctI_Trap), cC_UnknownInstruction, cI_UnknownInstruction, (PySem.W.fnOf "__init__" "UnknownInstruction.__init__" (defArgs i_UnknownInstruction) (defBody i_UnknownInstruction) (defScope i_UnknownInstruction) .none kVI_UnknownInstruction dcI_UnknownInstruction pmI_UnknownInstruction anI_UnknownInstruction cdI_UnknownInstruction ctI_UnknownInstruction), cC_BadValues, ct_INSTRUCTIONS, ct_CONVERTED_KINDS, ct_COMPARISONS, ct_ONE_OPERAND, ct_TWO_OPERANDS, f24, f26, f27, f28, f29, f30, f31, f32, f4, f5, f6, f8, f7, f9, f10, f11, f12, f13, f14, f16, f17, f18, f19, f20, f21, f22, f23⟩ : Cs)) := c_in_range D_in_range T C_signed
  have C_either : Cal l.prog w K mg base (L2.CX l.prog w) 1 "either" (sp_either K (⟨cC_HostError, cC_Trap, cI_Trap, (PySem.W.fnOf "__init__" "Trap.__init__" (defArgs i_Trap) (defBody i_Trap) (defScope i_Trap) .none kVI_Trap dcI_Trap pmI_Trap anI_Trap cdI_Trap ctI_Trap), cC_UnknownInstruction, cI_UnknownInstruction, (PySem.W.fnOf "__init__" "UnknownInstruction.__init__" (defArgs i_UnknownInstruction) (defBody i_UnknownInstruction) (defScope i_UnknownInstruction) .none kVI_UnknownInstruction dcI_UnknownInstruction pmI_UnknownInstruction anI_UnknownInstruction cdI_UnknownInstruction ctI_UnknownInstruction), cC_BadValues, ct_INSTRUCTIONS, ct_CONVERTED_KINDS, ct_COMPARISONS, ct_ONE_OPERAND, ct_TWO_OPERANDS, f24, f26, f27, f28, f29, f30, f31, f32, f4, f5, f6, f8, f7, f9, f10, f11, f12, f13, f14, f16, f17, f18, f19, f20, f21, f22, f23⟩ : Cs)) := c_either D_either T 
  have C_differing : Cal l.prog w K mg base (L2.CX l.prog w) 1 "differing" (sp_differing K (⟨cC_HostError, cC_Trap, cI_Trap, (PySem.W.fnOf "__init__" "Trap.__init__" (defArgs i_Trap) (defBody i_Trap) (defScope i_Trap) .none kVI_Trap dcI_Trap pmI_Trap anI_Trap cdI_Trap ctI_Trap), cC_UnknownInstruction, cI_UnknownInstruction, (PySem.W.fnOf "__init__" "UnknownInstruction.__init__" (defArgs i_UnknownInstruction) (defBody i_UnknownInstruction) (defScope i_UnknownInstruction) .none kVI_UnknownInstruction dcI_UnknownInstruction pmI_UnknownInstruction anI_UnknownInstruction cdI_UnknownInstruction ctI_UnknownInstruction), cC_BadValues, ct_INSTRUCTIONS, ct_CONVERTED_KINDS, ct_COMPARISONS, ct_ONE_OPERAND, ct_TWO_OPERANDS, f24, f26, f27, f28, f29, f30, f31, f32, f4, f5, f6, f8, f7, f9, f10, f11, f12, f13, f14, f16, f17, f18, f19, f20, f21, f22, f23⟩ : Cs)) := c_differing D_differing T 
  have C_shift_left : Cal l.prog w K mg base (L2.CX l.prog w) 1 "shift_left" (sp_shift_left K (⟨cC_HostError, cC_Trap, cI_Trap, (PySem.W.fnOf "__init__" "Trap.__init__" (defArgs i_Trap) (defBody i_Trap) (defScope i_Trap) .none kVI_Trap dcI_Trap pmI_Trap anI_Trap cdI_Trap ctI_Trap), cC_UnknownInstruction, cI_UnknownInstruction, (PySem.W.fnOf "__init__" "UnknownInstruction.__init__" (defArgs i_UnknownInstruction) (defBody i_UnknownInstruction) (defScope i_UnknownInstruction) .none kVI_UnknownInstruction dcI_UnknownInstruction pmI_UnknownInstruction anI_UnknownInstruction cdI_UnknownInstruction ctI_UnknownInstruction), cC_BadValues, ct_INSTRUCTIONS, ct_CONVERTED_KINDS, ct_COMPARISONS, ct_ONE_OPERAND, ct_TWO_OPERANDS, f24, f26, f27, f28, f29, f30, f31, f32, f4, f5, f6, f8, f7, f9, f10, f11, f12, f13, f14, f16, f17, f18, f19, f20, f21, f22, f23⟩ : Cs)) := c_shift_left D_shift_left T 
  have C_shift_right : Cal l.prog w K mg base (L2.CX l.prog w) 1 "shift_right" (sp_shift_right K (⟨cC_HostError, cC_Trap, cI_Trap, (PySem.W.fnOf "__init__" "Trap.__init__" (defArgs i_Trap) (defBody i_Trap) (defScope i_Trap) .none kVI_Trap dcI_Trap pmI_Trap anI_Trap cdI_Trap ctI_Trap), cC_UnknownInstruction, cI_UnknownInstruction, (PySem.W.fnOf "__init__" "UnknownInstruction.__init__" (defArgs i_UnknownInstruction) (defBody i_UnknownInstruction) (defScope i_UnknownInstruction) .none kVI_UnknownInstruction dcI_UnknownInstruction pmI_UnknownInstruction anI_UnknownInstruction cdI_UnknownInstruction ctI_UnknownInstruction), cC_BadValues, ct_INSTRUCTIONS, ct_CONVERTED_KINDS, ct_COMPARISONS, ct_ONE_OPERAND, ct_TWO_OPERANDS, f24, f26, f27, f28, f29, f30, f31, f32, f4, f5, f6, f8, f7, f9, f10, f11, f12, f13, f14, f16, f17, f18, f19, f20, f21, f22, f23⟩ : Cs)) := c_shift_right D_shift_right T 
  have C_low_bits : Cal l.prog w K mg base CX0 1 "low_bits" (sp_low_bits K (⟨cC_HostError, cC_Trap, cI_Trap, (PySem.W.fnOf "__init__" "Trap.__init__" (defArgs i_Trap) (defBody i_Trap) (defScope i_Trap) .none kVI_Trap dcI_Trap pmI_Trap anI_Trap cdI_Trap ctI_Trap), cC_UnknownInstruction, cI_UnknownInstruction, (PySem.W.fnOf "__init__" "UnknownInstruction.__init__" (defArgs i_UnknownInstruction) (defBody i_UnknownInstruction) (defScope i_UnknownInstruction) .none kVI_UnknownInstruction dcI_UnknownInstruction pmI_UnknownInstruction anI_UnknownInstruction cdI_UnknownInstruction ctI_UnknownInstruction), cC_BadValues, ct_INSTRUCTIONS, ct_CONVERTED_KINDS, ct_COMPARISONS, ct_ONE_OPERAND, ct_TWO_OPERANDS, f24, f26, f27, f28, f29, f30, f31, f32, f4, f5, f6, f8, f7, f9, f10, f11, f12, f13, f14, f16, f17, f18, f19, f20, f21, f22, f23⟩ : Cs)) := c_low_bits D_low_bits T 
  have C_rotate : Cal l.prog w K mg base CX0 2 "rotate" (sp_rotate K (⟨cC_HostError, cC_Trap, cI_Trap, (PySem.W.fnOf "__init__" "Trap.__init__" (defArgs i_Trap) (defBody i_Trap) (defScope i_Trap) .none kVI_Trap dcI_Trap pmI_Trap anI_Trap cdI_Trap ctI_Trap), cC_UnknownInstruction, cI_UnknownInstruction, (PySem.W.fnOf "__init__" "UnknownInstruction.__init__" (defArgs i_UnknownInstruction) (defBody i_UnknownInstruction) (defScope i_UnknownInstruction) .none kVI_UnknownInstruction dcI_UnknownInstruction pmI_UnknownInstruction anI_UnknownInstruction cdI_UnknownInstruction ctI_UnknownInstruction), cC_BadValues, ct_INSTRUCTIONS, ct_CONVERTED_KINDS, ct_COMPARISONS, ct_ONE_OPERAND, ct_TWO_OPERANDS, f24, f26, f27, f28, f29, f30, f31, f32, f4, f5, f6, f8, f7, f9, f10, f11, f12, f13, f14, f16, f17, f18, f19, f20, f21, f22, f23⟩ : Cs)) := c_rotate D_rotate T C_low_bits
  have C_rotate_left : Cal l.prog w K mg base (L2.CX l.prog w) 3 "rotate_left" (sp_rotate_left K (⟨cC_HostError, cC_Trap, cI_Trap, (PySem.W.fnOf "__init__" "Trap.__init__" (defArgs i_Trap) (defBody i_Trap) (defScope i_Trap) .none kVI_Trap dcI_Trap pmI_Trap anI_Trap cdI_Trap ctI_Trap), cC_UnknownInstruction, cI_UnknownInstruction, (PySem.W.fnOf "__init__" "UnknownInstruction.__init__" (defArgs i_UnknownInstruction) (defBody i_UnknownInstruction) (defScope i_UnknownInstruction) .none kVI_UnknownInstruction dcI_UnknownInstruction pmI_UnknownInstruction anI_UnknownInstruction cdI_UnknownInstruction ctI_UnknownInstruction), cC_BadValues, ct_INSTRUCTIONS, ct_CONVERTED_KINDS, ct_COMPARISONS, ct_ONE_OPERAND, ct_TWO_OPERANDS, f24, f26, f27, f28, f29, f30, f31, f32, f4, f5, f6, f8, f7, f9, f10, f11, f12, f13, f14, f16, f17, f18, f19, f20, f21, f22, f23⟩ : Cs)) := c_rotate_left D_rotate_left T C_rotate
  have C_rotate_right : Cal l.prog w K mg base (L2.CX l.prog w) 3 "rotate_right" (sp_rotate_right K (⟨cC_HostError, cC_Trap, cI_Trap, (PySem.W.fnOf "__init__" "Trap.__init__" (defArgs i_Trap) (defBody i_Trap) (defScope i_Trap) .none kVI_Trap dcI_Trap pmI_Trap anI_Trap cdI_Trap ctI_Trap), cC_UnknownInstruction, cI_UnknownInstruction, (PySem.W.fnOf "__init__" "UnknownInstruction.__init__" (defArgs i_UnknownInstruction) (defBody i_UnknownInstruction) (defScope i_UnknownInstruction) .none kVI_UnknownInstruction dcI_UnknownInstruction pmI_UnknownInstruction anI_UnknownInstruction cdI_UnknownInstruction ctI_UnknownInstruction), cC_BadValues, ct_INSTRUCTIONS, ct_CONVERTED_KINDS, ct_COMPARISONS, ct_ONE_OPERAND, ct_TWO_OPERANDS, f24, f26, f27, f28, f29, f30, f31, f32, f4, f5, f6, f8, f7, f9, f10, f11, f12, f13, f14, f16, f17, f18, f19, f20, f21, f22, f23⟩ : Cs)) := c_rotate_right D_rotate_right T C_rotate
  have C_leading_zeros : Cal l.prog w K mg base (L2.CX l.prog w) 2 "leading_zeros" (sp_leading_zeros K (⟨cC_HostError, cC_Trap, cI_Trap, (PySem.W.fnOf "__init__" "Trap.__init__" (defArgs i_Trap) (defBody i_Trap) (defScope i_Trap) .none kVI_Trap dcI_Trap pmI_Trap anI_Trap cdI_Trap ctI_Trap), cC_UnknownInstruction, cI_UnknownInstruction, (PySem.W.fnOf "__init__" "UnknownInstruction.__init__" (defArgs i_UnknownInstruction) (defBody i_UnknownInstruction) (defScope i_UnknownInstruction) .none kVI_UnknownInstruction dcI_UnknownInstruction pmI_UnknownInstruction anI_UnknownInstruction cdI_UnknownInstruction ctI_UnknownInstruction), cC_BadValues, ct_INSTRUCTIONS, ct_CONVERTED_KINDS, ct_COMPARISONS, ct_ONE_OPERAND, ct_TWO_OPERANDS, f24, f26, f27, f28, f29, f30, f31, f32, f4, f5, f6, f8, f7, f9, f10, f11, f12, f13, f14, f16, f17, f18, f19, f20, f21, f22, f23⟩ : Cs)) := c_leading_zeros D_leading_zeros T C_low_bits
  have C_trailing_zeros : Cal l.prog w K mg base (L2.CX l.prog w) 1 "trailing_zeros" (sp_trailing_zeros K (⟨cC_HostError, cC_Trap, cI_Trap, (PySem.W.fnOf "__init__" "Trap.__init__" (defArgs i_Trap) (defBody i_Trap) (defScope i_Trap) .none kVI_Trap dcI_Trap pmI_Trap anI_Trap cdI_Trap ctI_Trap), cC_UnknownInstruction, cI_UnknownInstruction, (PySem.W.fnOf "__init__" "UnknownInstruction.__init__" (defArgs i_UnknownInstruction) (defBody i_UnknownInstruction) (defScope i_UnknownInstruction) .none kVI_UnknownInstruction dcI_UnknownInstruction pmI_UnknownInstruction anI_UnknownInstruction cdI_UnknownInstruction ctI_UnknownInstruction), cC_BadValues, ct_INSTRUCTIONS, ct_CONVERTED_KINDS, ct_COMPARISONS, ct_ONE_OPERAND, ct_TWO_OPERANDS, f24, f26, f27, f28, f29, f30, f31, f32, f4, f5, f6, f8, f7, f9, f10, f11, f12, f13, f14, f16, f17, f18, f19, f20, f21, f22, f23⟩ : Cs)) := c_trailing_zeros D_trailing_zeros T 
  have C_ones : Cal l.prog w K mg base (L2.CX l.prog w) 2 "ones" (sp_ones K (⟨cC_HostError, cC_Trap, cI_Trap, (PySem.W.fnOf "__init__" "Trap.__init__" (defArgs i_Trap) (defBody i_Trap) (defScope i_Trap) .none kVI_Trap dcI_Trap pmI_Trap anI_Trap cdI_Trap ctI_Trap), cC_UnknownInstruction, cI_UnknownInstruction, (PySem.W.fnOf "__init__" "UnknownInstruction.__init__" (defArgs i_UnknownInstruction) (defBody i_UnknownInstruction) (defScope i_UnknownInstruction) .none kVI_UnknownInstruction dcI_UnknownInstruction pmI_UnknownInstruction anI_UnknownInstruction cdI_UnknownInstruction ctI_UnknownInstruction), cC_BadValues, ct_INSTRUCTIONS, ct_CONVERTED_KINDS, ct_COMPARISONS, ct_ONE_OPERAND, ct_TWO_OPERANDS, f24, f26, f27, f28, f29, f30, f31, f32, f4, f5, f6, f8, f7, f9, f10, f11, f12, f13, f14, f16, f17, f18, f19, f20, f21, f22, f23⟩ : Cs)) := c_ones D_ones T C_low_bits
  have C_add : Cal l.prog w K mg base (L2.CX l.prog w) 1 "add" (sp_add K (⟨cC_HostError, cC_Trap, cI_Trap, (PySem.W.fnOf "__init__" "Trap.__init__" (defArgs i_Trap) (defBody i_Trap) (defScope i_Trap) .none kVI_Trap dcI_Trap pmI_Trap anI_Trap cdI_Trap ctI_Trap), cC_UnknownInstruction, cI_UnknownInstruction, (PySem.W.fnOf "__init__" "UnknownInstruction.__init__" (defArgs i_UnknownInstruction) (defBody i_UnknownInstruction) (defScope i_UnknownInstruction) .none kVI_UnknownInstruction dcI_UnknownInstruction pmI_UnknownInstruction anI_UnknownInstruction cdI_UnknownInstruction ctI_UnknownInstruction), cC_BadValues, ct_INSTRUCTIONS, ct_CONVERTED_KINDS, ct_COMPARISONS, ct_ONE_OPERAND, ct_TWO_OPERANDS, f24, f26, f27, f28, f29, f30, f31, f32, f4, f5, f6, f8, f7, f9, f10, f11, f12, f13, f14, f16, f17, f18, f19, f20, f21, f22, f23⟩ : Cs)) := c_add D_add T 
  have C_sub : Cal l.prog w K mg base (L2.CX l.prog w) 1 "sub" (sp_sub K (⟨cC_HostError, cC_Trap, cI_Trap, (PySem.W.fnOf "__init__" "Trap.__init__" (defArgs i_Trap) (defBody i_Trap) (defScope i_Trap) .none kVI_Trap dcI_Trap pmI_Trap anI_Trap cdI_Trap ctI_Trap), cC_UnknownInstruction, cI_UnknownInstruction, (PySem.W.fnOf "__init__" "UnknownInstruction.__init__" (defArgs i_UnknownInstruction) (defBody i_UnknownInstruction) (defScope i_UnknownInstruction) .none kVI_UnknownInstruction dcI_UnknownInstruction pmI_UnknownInstruction anI_UnknownInstruction cdI_UnknownInstruction ctI_UnknownInstruction), cC_BadValues, ct_INSTRUCTIONS, ct_CONVERTED_KINDS, ct_COMPARISONS, ct_ONE_OPERAND, ct_TWO_OPERANDS, f24, f26, f27, f28, f29, f30, f31, f32, f4, f5, f6, f8, f7, f9, f10, f11, f12, f13, f14, f16, f17, f18, f19, f20, f21, f22, f23⟩ : Cs)) := c_sub D_sub T 
  have C_mul : Cal l.prog w K mg base (L2.CX l.prog w) 1 "mul" (sp_mul K (⟨cC_HostError, cC_Trap, cI_Trap, (PySem.W.fnOf "__init__" "Trap.__init__" (defArgs i_Trap) (defBody i_Trap) (defScope i_Trap) .none kVI_Trap dcI_Trap pmI_Trap anI_Trap cdI_Trap ctI_Trap), cC_UnknownInstruction, cI_UnknownInstruction, (PySem.W.fnOf "__init__" "UnknownInstruction.__init__" (defArgs i_UnknownInstruction) (defBody i_UnknownInstruction) (defScope i_UnknownInstruction) .none kVI_UnknownInstruction dcI_UnknownInstruction pmI_UnknownInstruction anI_UnknownInstruction cdI_UnknownInstruction ctI_UnknownInstruction), cC_BadValues, ct_INSTRUCTIONS, ct_CONVERTED_KINDS, ct_COMPARISONS, ct_ONE_OPERAND, ct_TWO_OPERANDS, f24, f26, f27, f28, f29, f30, f31, f32, f4, f5, f6, f8, f7, f9, f10, f11, f12, f13, f14, f16, f17, f18, f19, f20, f21, f22, f23⟩ : Cs)) := c_mul D_mul T 
  have C_quotient : Cal l.prog w K mg base (L2.CX l.prog w) 3 "quotient" (sp_quotient K (⟨cC_HostError, cC_Trap, cI_Trap, (PySem.W.fnOf "__init__" "Trap.__init__" (defArgs i_Trap) (defBody i_Trap) (defScope i_Trap) .none kVI_Trap dcI_Trap pmI_Trap anI_Trap cdI_Trap ctI_Trap), cC_UnknownInstruction, cI_UnknownInstruction, (PySem.W.fnOf "__init__" "UnknownInstruction.__init__" (defArgs i_UnknownInstruction) (defBody i_UnknownInstruction) (defScope i_UnknownInstruction) .none kVI_UnknownInstruction dcI_UnknownInstruction pmI_UnknownInstruction anI_UnknownInstruction cdI_UnknownInstruction ctI_UnknownInstruction), cC_BadValues, ct_INSTRUCTIONS, ct_CONVERTED_KINDS, ct_COMPARISONS, ct_ONE_OPERAND, ct_TWO_OPERANDS, f24, f26, f27, f28, f29, f30, f31, f32, f4, f5, f6, f8, f7, f9, f10, f11, f12, f13, f14, f16, f17, f18, f19, f20, f21, f22, f23⟩ : Cs)) := c_quotient D_quotient T 
  have C_signed_quotient : Cal l.prog w K mg base (L2.CX l.prog w) 4 "signed_quotient" (sp_signed_quotient K (⟨cC_HostError, cC_Trap, cI_Trap, (PySem.W.fnOf "__init__" "Trap.__init__" (defArgs i_Trap) (defBody i_Trap) (defScope i_Trap) .none kVI_Trap dcI_Trap pmI_Trap anI_Trap cdI_Trap ctI_Trap), cC_UnknownInstruction, cI_UnknownInstruction, (PySem.W.fnOf "__init__" "UnknownInstruction.__init__" (defArgs i_UnknownInstruction) (defBody i_UnknownInstruction) (defScope i_UnknownInstruction) .none kVI_UnknownInstruction dcI_UnknownInstruction pmI_UnknownInstruction anI_UnknownInstruction cdI_UnknownInstruction ctI_UnknownInstruction), cC_BadValues, ct_INSTRUCTIONS, ct_CONVERTED_KINDS, ct_COMPARISONS, ct_ONE_OPERAND, ct_TWO_OPERANDS, f24, f26, f27, f28, f29, f30, f31, f32, f4, f5, f6, f8, f7, f9, f10, f11, f12, f13, f14, f16, f17, f18, f19, f20, f21, f22, f23⟩ : Cs)) := c_signed_quotient D_signed_quotient T C_quotient
  have C_remainder : Cal l.prog w K mg base (L2.CX l.prog w) 4 "remainder" (sp_remainder K (⟨cC_HostError, cC_Trap, cI_Trap, (PySem.W.fnOf "__init__" "Trap.__init__" (defArgs i_Trap) (defBody i_Trap) (defScope i_Trap) .none kVI_Trap dcI_Trap pmI_Trap anI_Trap cdI_Trap ctI_Trap), cC_UnknownInstruction, cI_UnknownInstruction, (PySem.W.fnOf "__init__" "UnknownInstruction.__init__" (defArgs i_UnknownInstruction) (defBody i_UnknownInstruction) (defScope i_UnknownInstruction) .none kVI_UnknownInstruction dcI_UnknownInstruction pmI_UnknownInstruction anI_UnknownInstruction cdI_UnknownInstruction ctI_UnknownInstruction), cC_BadValues, ct_INSTRUCTIONS, ct_CONVERTED_KINDS, ct_COMPARISONS, ct_ONE_OPERAND, ct_TWO_OPERANDS, f24, f26, f27, f28, f29, f30, f31, f32, f4, f5, f6, f8, f7, f9, f10, f11, f12, f13, f14, f16, f17, f18, f19, f20, f21, f22, f23⟩ : Cs)) := c_remainder D_remainder T C_quotient
  have C_both : Cal l.prog w K mg base (L2.CX l.prog w) 1 "both" (sp_both K (⟨cC_HostError, cC_Trap, cI_Trap, (PySem.W.fnOf "__init__" "Trap.__init__" (defArgs i_Trap) (defBody i_Trap) (defScope i_Trap) .none kVI_Trap dcI_Trap pmI_Trap anI_Trap cdI_Trap ctI_Trap), cC_UnknownInstruction, cI_UnknownInstruction, (PySem.W.fnOf "__init__" "UnknownInstruction.__init__" (defArgs i_UnknownInstruction) (defBody i_UnknownInstruction) (defScope i_UnknownInstruction) .none kVI_UnknownInstruction dcI_UnknownInstruction pmI_UnknownInstruction anI_UnknownInstruction cdI_UnknownInstruction ctI_UnknownInstruction), cC_BadValues, ct_INSTRUCTIONS, ct_CONVERTED_KINDS, ct_COMPARISONS, ct_ONE_OPERAND, ct_TWO_OPERANDS, f24, f26, f27, f28, f29, f30, f31, f32, f4, f5, f6, f8, f7, f9, f10, f11, f12, f13, f14, f16, f17, f18, f19, f20, f21, f22, f23⟩ : Cs)) := c_both D_both T 
  have C_same : Cal l.prog w K mg base (L2.CX l.prog w) 1 "same" (sp_same K (⟨cC_HostError, cC_Trap, cI_Trap, (PySem.W.fnOf "__init__" "Trap.__init__" (defArgs i_Trap) (defBody i_Trap) (defScope i_Trap) .none kVI_Trap dcI_Trap pmI_Trap anI_Trap cdI_Trap ctI_Trap), cC_UnknownInstruction, cI_UnknownInstruction, (PySem.W.fnOf "__init__" "UnknownInstruction.__init__" (defArgs i_UnknownInstruction) (defBody i_UnknownInstruction) (defScope i_UnknownInstruction) .none kVI_UnknownInstruction dcI_UnknownInstruction pmI_UnknownInstruction anI_UnknownInstruction cdI_UnknownInstruction ctI_UnknownInstruction), cC_BadValues, ct_INSTRUCTIONS, ct_CONVERTED_KINDS, ct_COMPARISONS, ct_ONE_OPERAND, ct_TWO_OPERANDS, f24, f26, f27, f28, f29, f30, f31, f32, f4, f5, f6, f8, f7, f9, f10, f11, f12, f13, f14, f16, f17, f18, f19, f20, f21, f22, f23⟩ : Cs)) := c_same D_same T 
  have C_other : Cal l.prog w K mg base (L2.CX l.prog w) 1 "other" (sp_other K (⟨cC_HostError, cC_Trap, cI_Trap, (PySem.W.fnOf "__init__" "Trap.__init__" (defArgs i_Trap) (defBody i_Trap) (defScope i_Trap) .none kVI_Trap dcI_Trap pmI_Trap anI_Trap cdI_Trap ctI_Trap), cC_UnknownInstruction, cI_UnknownInstruction, (PySem.W.fnOf "__init__" "UnknownInstruction.__init__" (defArgs i_UnknownInstruction) (defBody i_UnknownInstruction) (defScope i_UnknownInstruction) .none kVI_UnknownInstruction dcI_UnknownInstruction pmI_UnknownInstruction anI_UnknownInstruction cdI_UnknownInstruction ctI_UnknownInstruction), cC_BadValues, ct_INSTRUCTIONS, ct_CONVERTED_KINDS, ct_COMPARISONS, ct_ONE_OPERAND, ct_TWO_OPERANDS, f24, f26, f27, f28, f29, f30, f31, f32, f4, f5, f6, f8, f7, f9, f10, f11, f12, f13, f14, f16, f17, f18, f19, f20, f21, f22, f23⟩ : Cs)) := c_other D_other T 
  have C_less : Cal l.prog w K mg base (L2.CX l.prog w) 1 "less" (sp_less K (⟨cC_HostError, cC_Trap, cI_Trap, (PySem.W.fnOf "__init__" "Trap.__init__" (defArgs i_Trap) (defBody i_Trap) (defScope i_Trap) .none kVI_Trap dcI_Trap pmI_Trap anI_Trap cdI_Trap ctI_Trap), cC_UnknownInstruction, cI_UnknownInstruction, (PySem.W.fnOf "__init__" "UnknownInstruction.__init__" (defArgs i_UnknownInstruction) (defBody i_UnknownInstruction) (defScope i_UnknownInstruction) .none kVI_UnknownInstruction dcI_UnknownInstruction pmI_UnknownInstruction anI_UnknownInstruction cdI_UnknownInstruction ctI_UnknownInstruction), cC_BadValues, ct_INSTRUCTIONS, ct_CONVERTED_KINDS, ct_COMPARISONS, ct_ONE_OPERAND, ct_TWO_OPERANDS, f24, f26, f27, f28, f29, f30, f31, f32, f4, f5, f6, f8, f7, f9, f10, f11, f12, f13, f14, f16, f17, f18, f19, f20, f21, f22, f23⟩ : Cs)) := c_less D_less T 
  have C_greater : Cal l.prog w K mg base (L2.CX l.prog w) 1 "greater" (sp_greater K (⟨cC_HostError, cC_Trap, cI_Trap, (PySem.W.fnOf "__init__" "Trap.__init__" (defArgs i_Trap) (defBody i_Trap) (defScope i_Trap) .none kVI_Trap dcI_Trap pmI_Trap anI_Trap cdI_Trap ctI_Trap), cC_UnknownInstruction, cI_UnknownInstruction, (PySem.W.fnOf "__init__" "UnknownInstruction.__init__" (defArgs i_UnknownInstruction) (defBody i_UnknownInstruction) (defScope i_UnknownInstruction) .none kVI_UnknownInstruction dcI_UnknownInstruction pmI_UnknownInstruction anI_UnknownInstruction cdI_UnknownInstruction ctI_UnknownInstruction), cC_BadValues, ct_INSTRUCTIONS, ct_CONVERTED_KINDS, ct_COMPARISONS, ct_ONE_OPERAND, ct_TWO_OPERANDS, f24, f26, f27, f28, f29, f30, f31, f32, f4, f5, f6, f8, f7, f9, f10, f11, f12, f13, f14, f16, f17, f18, f19, f20, f21, f22, f23⟩ : Cs)) := c_greater D_greater T 
  have C_at_most : Cal l.prog w K mg base (L2.CX l.prog w) 1 "at_most" (sp_at_most K (⟨cC_HostError, cC_Trap, cI_Trap, (PySem.W.fnOf "__init__" "Trap.__init__" (defArgs i_Trap) (defBody i_Trap) (defScope i_Trap) .none kVI_Trap dcI_Trap pmI_Trap anI_Trap cdI_Trap ctI_Trap), cC_UnknownInstruction, cI_UnknownInstruction, (PySem.W.fnOf "__init__" "UnknownInstruction.__init__" (defArgs i_UnknownInstruction) (defBody i_UnknownInstruction) (defScope i_UnknownInstruction) .none kVI_UnknownInstruction dcI_UnknownInstruction pmI_UnknownInstruction anI_UnknownInstruction cdI_UnknownInstruction ctI_UnknownInstruction), cC_BadValues, ct_INSTRUCTIONS, ct_CONVERTED_KINDS, ct_COMPARISONS, ct_ONE_OPERAND, ct_TWO_OPERANDS, f24, f26, f27, f28, f29, f30, f31, f32, f4, f5, f6, f8, f7, f9, f10, f11, f12, f13, f14, f16, f17, f18, f19, f20, f21, f22, f23⟩ : Cs)) := c_at_most D_at_most T 
  have C_at_least : Cal l.prog w K mg base (L2.CX l.prog w) 1 "at_least" (sp_at_least K (⟨cC_HostError, cC_Trap, cI_Trap, (PySem.W.fnOf "__init__" "Trap.__init__" (defArgs i_Trap) (defBody i_Trap) (defScope i_Trap) .none kVI_Trap dcI_Trap pmI_Trap anI_Trap cdI_Trap ctI_Trap), cC_UnknownInstruction, cI_UnknownInstruction, (PySem.W.fnOf "__init__" "UnknownInstruction.__init__" (defArgs i_UnknownInstruction) (defBody i_UnknownInstruction) (defScope i_UnknownInstruction) .none kVI_UnknownInstruction dcI_UnknownInstruction pmI_UnknownInstruction anI_UnknownInstruction cdI_UnknownInstruction ctI_UnknownInstruction), cC_BadValues, ct_INSTRUCTIONS, ct_CONVERTED_KINDS, ct_COMPARISONS, ct_ONE_OPERAND, ct_TWO_OPERANDS, f24, f26, f27, f28, f29, f30, f31, f32, f4, f5, f6, f8, f7, f9, f10, f11, f12, f13, f14, f16, f17, f18, f19, f20, f21, f22, f23⟩ : Cs)) := c_at_least D_at_least T 
  have C_is_zero : Cal l.prog w K mg base (L2.CX l.prog w) 1 "is_zero" (sp_is_zero K (⟨cC_HostError, cC_Trap, cI_Trap, (PySem.W.fnOf "__init__" "Trap.__init__" (defArgs i_Trap) (defBody i_Trap) (defScope i_Trap) .none kVI_Trap dcI_Trap pmI_Trap anI_Trap cdI_Trap ctI_Trap), cC_UnknownInstruction, cI_UnknownInstruction, (PySem.W.fnOf "__init__" "UnknownInstruction.__init__" (defArgs i_UnknownInstruction) (defBody i_UnknownInstruction) (defScope i_UnknownInstruction) .none kVI_UnknownInstruction dcI_UnknownInstruction pmI_UnknownInstruction anI_UnknownInstruction cdI_UnknownInstruction ctI_UnknownInstruction), cC_BadValues, ct_INSTRUCTIONS, ct_CONVERTED_KINDS, ct_COMPARISONS, ct_ONE_OPERAND, ct_TWO_OPERANDS, f24, f26, f27, f28, f29, f30, f31, f32, f4, f5, f6, f8, f7, f9, f10, f11, f12, f13, f14, f16, f17, f18, f19, f20, f21, f22, f23⟩ : Cs)) := c_is_zero D_is_zero T 
  have C_extend_8 : Cal l.prog w K mg base (L2.CX l.prog w) 2 "extend_8" (sp_extend_8 K (⟨cC_HostError, cC_Trap, cI_Trap, (PySem.W.fnOf "__init__" "Trap.__init__" (defArgs i_Trap) (defBody i_Trap) (defScope i_Trap) .none kVI_Trap dcI_Trap pmI_Trap anI_Trap cdI_Trap ctI_Trap), cC_UnknownInstruction, cI_UnknownInstruction, (PySem.W.fnOf "__init__" "UnknownInstruction.__init__" (defArgs i_UnknownInstruction) (defBody i_UnknownInstruction) (defScope i_UnknownInstruction) .none kVI_UnknownInstruction dcI_UnknownInstruction pmI_UnknownInstruction anI_UnknownInstruction cdI_UnknownInstruction ctI_UnknownInstruction), cC_BadValues, ct_INSTRUCTIONS, ct_CONVERTED_KINDS, ct_COMPARISONS, ct_ONE_OPERAND, ct_TWO_OPERANDS, f24, f26, f27, f28, f29, f30, f31, f32, f4, f5, f6, f8, f7, f9, f10, f11, f12, f13, f14, f16, f17, f18, f19, f20, f21, f22, f23⟩ : Cs)) := c_extend_8 D_extend_8 T C_extend
  have C_extend_16 : Cal l.prog w K mg base (L2.CX l.prog w) 2 "extend_16" (sp_extend_16 K (⟨cC_HostError, cC_Trap, cI_Trap, (PySem.W.fnOf "__init__" "Trap.__init__" (defArgs i_Trap) (defBody i_Trap) (defScope i_Trap) .none kVI_Trap dcI_Trap pmI_Trap anI_Trap cdI_Trap ctI_Trap), cC_UnknownInstruction, cI_UnknownInstruction, (PySem.W.fnOf "__init__" "UnknownInstruction.__init__" (defArgs i_UnknownInstruction) (defBody i_UnknownInstruction) (defScope i_UnknownInstruction) .none kVI_UnknownInstruction dcI_UnknownInstruction pmI_UnknownInstruction anI_UnknownInstruction cdI_UnknownInstruction ctI_UnknownInstruction), cC_BadValues, ct_INSTRUCTIONS, ct_CONVERTED_KINDS, ct_COMPARISONS, ct_ONE_OPERAND, ct_TWO_OPERANDS, f24, f26, f27, f28, f29, f30, f31, f32, f4, f5, f6, f8, f7, f9, f10, f11, f12, f13, f14, f16, f17, f18, f19, f20, f21, f22, f23⟩ : Cs)) := c_extend_16 D_extend_16 T C_extend
  have C_extend_32 : Cal l.prog w K mg base (L2.CX l.prog w) 2 "extend_32" (sp_extend_32 K (⟨cC_HostError, cC_Trap, cI_Trap, (PySem.W.fnOf "__init__" "Trap.__init__" (defArgs i_Trap) (defBody i_Trap) (defScope i_Trap) .none kVI_Trap dcI_Trap pmI_Trap anI_Trap cdI_Trap ctI_Trap), cC_UnknownInstruction, cI_UnknownInstruction, (PySem.W.fnOf "__init__" "UnknownInstruction.__init__" (defArgs i_UnknownInstruction) (defBody i_UnknownInstruction) (defScope i_UnknownInstruction) .none kVI_UnknownInstruction dcI_UnknownInstruction pmI_UnknownInstruction anI_UnknownInstruction cdI_UnknownInstruction ctI_UnknownInstruction), cC_BadValues, ct_INSTRUCTIONS, ct_CONVERTED_KINDS, ct_COMPARISONS, ct_ONE_OPERAND, ct_TWO_OPERANDS, f24, f26, f27, f28, f29, f30, f31, f32, f4, f5, f6, f8, f7, f9, f10, f11, f12, f13, f14, f16, f17, f18, f19, f20, f21, f22, f23⟩ : Cs)) := c_extend_32 D_extend_32 T C_extend
  have C_unchanged : Cal l.prog w K mg base (L2.CX l.prog w) 1 "unchanged" (sp_unchanged K (⟨cC_HostError, cC_Trap, cI_Trap, (PySem.W.fnOf "__init__" "Trap.__init__" (defArgs i_Trap) (defBody i_Trap) (defScope i_Trap) .none kVI_Trap dcI_Trap pmI_Trap anI_Trap cdI_Trap ctI_Trap), cC_UnknownInstruction, cI_UnknownInstruction, (PySem.W.fnOf "__init__" "UnknownInstruction.__init__" (defArgs i_UnknownInstruction) (defBody i_UnknownInstruction) (defScope i_UnknownInstruction) .none kVI_UnknownInstruction dcI_UnknownInstruction pmI_UnknownInstruction anI_UnknownInstruction cdI_UnknownInstruction ctI_UnknownInstruction), cC_BadValues, ct_INSTRUCTIONS, ct_CONVERTED_KINDS, ct_COMPARISONS, ct_ONE_OPERAND, ct_TWO_OPERANDS, f24, f26, f27, f28, f29, f30, f31, f32, f4, f5, f6, f8, f7, f9, f10, f11, f12, f13, f14, f16, f17, f18, f19, f20, f21, f22, f23⟩ : Cs)) := c_unchanged D_unchanged T 
  have C_calculate : Cal l.prog w K mg base (L2.CX l.prog w) 5 "calculate" (sp_calculate K (⟨cC_HostError, cC_Trap, cI_Trap, (PySem.W.fnOf "__init__" "Trap.__init__" (defArgs i_Trap) (defBody i_Trap) (defScope i_Trap) .none kVI_Trap dcI_Trap pmI_Trap anI_Trap cdI_Trap ctI_Trap), cC_UnknownInstruction, cI_UnknownInstruction, (PySem.W.fnOf "__init__" "UnknownInstruction.__init__" (defArgs i_UnknownInstruction) (defBody i_UnknownInstruction) (defScope i_UnknownInstruction) .none kVI_UnknownInstruction dcI_UnknownInstruction pmI_UnknownInstruction anI_UnknownInstruction cdI_UnknownInstruction ctI_UnknownInstruction), cC_BadValues, ct_INSTRUCTIONS, ct_CONVERTED_KINDS, ct_COMPARISONS, ct_ONE_OPERAND, ct_TWO_OPERANDS, f24, f26, f27, f28, f29, f30, f31, f32, f4, f5, f6, f8, f7, f9, f10, f11, f12, f13, f14, f16, f17, f18, f19, f20, f21, f22, f23⟩ : Cs)) := c_calculate D_calculate T C_signature_of C_width C_forms_of C_signed C_in_range C_either C_differing C_shift_left C_shift_right C_rotate_left C_rotate_right C_leading_zeros C_trailing_zeros C_ones C_add C_sub C_mul C_quotient C_signed_quotient C_remainder C_both C_same C_other C_less C_greater C_at_most C_at_least C_is_zero C_extend_8 C_extend_16 C_extend_32 C_unchanged
  have C__law_class : Cal l.prog w K mg base CX0 6 "_law_class" (sp__law_class K (⟨cC_HostError, cC_Trap, cI_Trap, (PySem.W.fnOf "__init__" "Trap.__init__" (defArgs i_Trap) (defBody i_Trap) (defScope i_Trap) .none kVI_Trap dcI_Trap pmI_Trap anI_Trap cdI_Trap ctI_Trap), cC_UnknownInstruction, cI_UnknownInstruction, (PySem.W.fnOf "__init__" "UnknownInstruction.__init__" (defArgs i_UnknownInstruction) (defBody i_UnknownInstruction) (defScope i_UnknownInstruction) .none kVI_UnknownInstruction dcI_UnknownInstruction pmI_UnknownInstruction anI_UnknownInstruction cdI_UnknownInstruction ctI_UnknownInstruction), cC_BadValues, ct_INSTRUCTIONS, ct_CONVERTED_KINDS, ct_COMPARISONS, ct_ONE_OPERAND, ct_TWO_OPERANDS, f24, f26, f27, f28, f29, f30, f31, f32, f4, f5, f6, f8, f7, f9, f10, f11, f12, f13, f14, f16, f17, f18, f19, f20, f21, f22, f23⟩ : Cs)) := c__law_class D__law_class T C__law_is_integer C_calculate
  have C__law_value : Cal l.prog w K mg base CX0 2 "_law_value" (sp__law_value K (⟨cC_HostError, cC_Trap, cI_Trap, (PySem.W.fnOf "__init__" "Trap.__init__" (defArgs i_Trap) (defBody i_Trap) (defScope i_Trap) .none kVI_Trap dcI_Trap pmI_Trap anI_Trap cdI_Trap ctI_Trap), cC_UnknownInstruction, cI_UnknownInstruction, (PySem.W.fnOf "__init__" "UnknownInstruction.__init__" (defArgs i_UnknownInstruction) (defBody i_UnknownInstruction) (defScope i_UnknownInstruction) .none kVI_UnknownInstruction dcI_UnknownInstruction pmI_UnknownInstruction anI_UnknownInstruction cdI_UnknownInstruction ctI_UnknownInstruction), cC_BadValues, ct_INSTRUCTIONS, ct_CONVERTED_KINDS, ct_COMPARISONS, ct_ONE_OPERAND, ct_TWO_OPERANDS, f24, f26, f27, f28, f29, f30, f31, f32, f4, f5, f6, f8, f7, f9, f10, f11, f12, f13, f14, f16, f17, f18, f19, f20, f21, f22, f23⟩ : Cs)) := c__law_value D__law_value T C__law_signed
  have C__law_operand : Cal l.prog w K mg base CX0 3 "_law_operand" (sp__law_operand K (⟨cC_HostError, cC_Trap, cI_Trap, (PySem.W.fnOf "__init__" "Trap.__init__" (defArgs i_Trap) (defBody i_Trap) (defScope i_Trap) .none kVI_Trap dcI_Trap pmI_Trap anI_Trap cdI_Trap ctI_Trap), cC_UnknownInstruction, cI_UnknownInstruction, (PySem.W.fnOf "__init__" "UnknownInstruction.__init__" (defArgs i_UnknownInstruction) (defBody i_UnknownInstruction) (defScope i_UnknownInstruction) .none kVI_UnknownInstruction dcI_UnknownInstruction pmI_UnknownInstruction anI_UnknownInstruction cdI_UnknownInstruction ctI_UnknownInstruction), cC_BadValues, ct_INSTRUCTIONS, ct_CONVERTED_KINDS, ct_COMPARISONS, ct_ONE_OPERAND, ct_TWO_OPERANDS, f24, f26, f27, f28, f29, f30, f31, f32, f4, f5, f6, f8, f7, f9, f10, f11, f12, f13, f14, f16, f17, f18, f19, f20, f21, f22, f23⟩ : Cs)) := c__law_operand D__law_operand T C__law_value
  exact c_law F48 T C__law_names C__law_cell C__law_params C__law_edited C__law_fits C__law_class C__law_operand
theorem walk {l : PySem.W.OpenLaw} {q : Program} {loose : List Str} {XP : (Str → Option Value) → Heap → Prop} {YP : World → Heap → Prop} {d : DefRec} {K : Params → PySem.W.Frag} (hn : l.most = some 63) (hdf : d.params.defaults = [])
    (hY : ∀ (w : World) (h : Heap), YP w h → (K w.params).In h)
    (F : ∀ (w : World) (mg : Str → Option Value) (fa : Addr) (h : Heap), (K w.params).In h → h.Ns mainGlobals mg → mg d.name = some (.ref fa) →
      ∃ fd : FuncData, (∀ (s : Shared) (u : Value), BindsTo s fd ⟨[u], []⟩ [("script", u)]) ∧ ∀ base : Heap, (K w.params).In base → base.Ns mainGlobals mg → FnOk l.prog w (K w.params) mg base CX0 7 fa fd ["script"] (sp_lawK (K w.params))) :
    PySem.W.WalkO q loose XP YP l.row.toRowW d [] (fun f vs => PySem.call f vs) :=
  L2.walk_of (n := 63) (k := 7) (x := "script") (CX := fun _ => CX0) (sp := fun w => sp_lawK (K w.params)) hn (by decide) hdf ⟨rfl, by decide, by decide⟩ hY F (fun _ _ a ns hl _ hS => ⟨a, ns, rfl, hS, hl, fun _ => rfl⟩) fun _ _ _ _ _ z => z
end V
open PySem PySem.W PyProof.Rows
set_option maxRecDepth 100000 in
set_option maxHeartbeats 0 in
theorem PySem.Challenge.cw_wasmhost_k08_operands_refused_holds : PySem.Challenge.rw_wasmhost_k08_operands_refused.Holds := by
  w_on; o_law; k_head; (case hw => w_witness2)
  k_fill
  refine V.walk (l := PySem.Challenge.rw_wasmhost_k08_operands_refused) rfl rfl (fun w h Y => PySem.W.kIn_of Y) ?F
  case F =>
    intro w mg fa h KX G hmg
    refine' V.all_mk KX G hmg ?a0 ?l0 ?c0 ?k0 ?a1 ?l1 ?c1 ?k1 ?a2 ?l2 ?c2 ?k2 ?a3 ?l3 ?c3 ?k3 ?a4 ?l4 ?c4 ?k4 ?a5 ?l5 ?c5 ?k5 ?a6 ?l6 ?c6 ?k6 ?a7 ?l7 ?c7 ?k7 ?a8 ?l8 ?c8 ?k8 ?a9 ?l9 ?c9 ?k9 ?a10 ?l10 ?c10 ?k10 ?a11 ?l11 ?c11 ?k11 ?a12 ?l12 ?c12 ?k12 ?a13 ?l13 ?c13 ?k13 ?a14 ?l14 ?c14 ?k14 ?a15 ?l15 ?c15 ?k15 ?a16 ?l16 ?c16 ?k16 ?a17 ?l17 ?c17 ?k17 ?a18 ?l18 ?c18 ?k18 ?a19 ?l19 ?c19 ?k19 ?a20 ?l20 ?c20 ?k20 ?a21 ?l21 ?c21 ?k21 ?a22 ?l22 ?c22 ?k22 ?a23 ?l23 ?c23 ?k23 ?a24 ?l24 ?c24 ?k24 ?a25 ?l25 ?c25 ?k25 ?a26 ?l26 ?c26 ?k26 ?a27 ?l27 ?c27 ?k27 ?a28 ?l28 ?c28 ?k28 ?a29 ?l29 ?c29 ?k29 ?a30 ?l30 ?c30 ?k30 ?a31 ?l31 ?c31 ?k31 ?a32 ?l32 ?c32 ?k32 ?a33 ?l33 ?c33 ?k33 ?a34 ?l34 ?c34 ?k34 ?a35 ?l35 ?c35 ?k35 ?a36 ?l36 ?c36 ?k36 ?a37 ?l37 ?c37 ?k37 ?a38 ?l38 ?c38 ?k38 ?a39 ?l39 ?c39 ?k39 ?a40 ?l40 ?c40 ?k40 ?a41 ?l41 ?c41 ?k41 ?a42 ?l42 ?c42 ?k42 ?a43 ?l43 ?c43 ?k43 ?a44 ?l44 ?c44 ?k44 ?a45 ?l45 ?c45 ?k45 ?a46 ?l46 ?c46 ?k46 ?a47 ?l47 ?c47 ?k47 ?a48 ?l48 ?c48 ?k48 ?z_abs ?z_bool ?z_int ?z_isinstance ?z_len ?z_list ?z_max ?z_min ?z_range ?z_str ?z_tuple ?z_zip ?sp0 ?tk0 ?aC_HostError ?aC_Trap ?aC_UnknownInstruction ?aC_BadValues ?ex_HostError ?ty_HostError ?hd_HostError ?ex_Trap ?ty_Trap ?hd_Trap ?ex_UnknownInstruction ?ty_UnknownInstruction ?hd_UnknownInstruction ?ex_BadValues ?ty_BadValues ?hd_BadValues ?xl_Trap ?sa_Trap ?ga_Trap ?gg_Trap ?ca_Trap ?kp_Trap ?mr_Trap ?aI_Trap ?tI_Trap ?lI_Trap ?cdo_Trap ?kI_Trap ?no_Trap_reason ?sub_Trap_HostError ?ne_Trap_HostError ?sub_Trap_Trap ?sub_Trap_UnknownInstruction ?ne_Trap_UnknownInstruction ?sub_Trap_BadValues ?ne_Trap_BadValues ?sub_Trap_VE ?xl_UnknownInstruction ?sa_UnknownInstruction ?ga_UnknownInstruction ?gg_UnknownInstruction ?ca_UnknownInstruction ?kp_UnknownInstruction ?mr_UnknownInstruction ?aI_UnknownInstruction ?tI_UnknownInstruction ?lI_UnknownInstruction ?cdo_UnknownInstruction ?kI_UnknownInstruction ?no_UnknownInstruction_name ?sub_UnknownInstruction_HostError ?ne_UnknownInstruction_HostError ?sub_UnknownInstruction_Trap ?ne_UnknownInstruction_Trap ?sub_UnknownInstruction_UnknownInstruction ?sub_UnknownInstruction_BadValues ?ne_UnknownInstruction_BadValues ?sub_UnknownInstruction_VE ?x0_BadValues ?ga_BadValues ?gg_BadValues ?ca_BadValues ?kp_BadValues ?mr_BadValues ?sub_BadValues_HostError ?ne_BadValues_HostError ?sub_BadValues_Trap ?ne_BadValues_Trap ?sub_BadValues_UnknownInstruction ?ne_BadValues_UnknownInstruction ?sub_BadValues_BadValues ?sub_BadValues_VE ?at_INSTRUCTIONS ?lt_INSTRUCTIONS ?zt_INSTRUCTIONS ?vt_INSTRUCTIONS ?at_CONVERTED_KINDS ?lt_CONVERTED_KINDS ?st_CONVERTED_KINDS ?at_COMPARISONS ?lt_COMPARISONS ?zt_COMPARISONS ?vt_COMPARISONS ?at_ONE_OPERAND ?lt_ONE_OPERAND ?st_ONE_OPERAND ?at_TWO_OPERANDS ?lt_TWO_OPERANDS ?st_TWO_OPERANDS ?vt_CONVERTED_KINDS ?vt_ONE_OPERAND ?vt_TWO_OPERANDS
    (case a0 => k_is)
    (case l0 => k_is)
    (case c0 => k_is)
    (case k0 => k_is)
    (case a1 => k_is)
    (case l1 => k_is)
    (case c1 => k_is)
    (case k1 => k_is)
    (case a2 => k_is)
    (case l2 => k_is)
    (case c2 => k_is)
    (case k2 => k_is)
    (case a3 => k_is)
    (case l3 => k_is)
    (case c3 => k_is)
    (case k3 => k_is)
    (case a4 => k_is)
    (case l4 => k_is)
    (case c4 => k_is)
    (case k4 => k_is)
    (case a5 => k_is)
    (case l5 => k_is)
    (case c5 => k_is)
    (case k5 => k_is)
    (case a6 => k_is)
    (case l6 => k_is)
    (case c6 => k_is)
    (case k6 => k_is)
    (case a7 => k_is)
    (case l7 => k_is)
    (case c7 => k_is)
    (case k7 => k_is)
    (case a8 => k_is)
    (case l8 => k_is)
    (case c8 => k_is)
    (case k8 => k_is)
    (case a9 => k_is)
    (case l9 => k_is)
    (case c9 => k_is)
    (case k9 => k_is)
    (case a10 => k_is)
    (case l10 => k_is)
    (case c10 => k_is)
    (case k10 => k_is)
    (case a11 => k_is)
    (case l11 => k_is)
    (case c11 => k_is)
    (case k11 => k_is)
    (case a12 => k_is)
    (case l12 => k_is)
    (case c12 => k_is)
    (case k12 => k_is)
    (case a13 => k_is)
    (case l13 => k_is)
    (case c13 => k_is)
    (case k13 => k_is)
    (case a14 => k_is)
    (case l14 => k_is)
    (case c14 => k_is)
    (case k14 => k_is)
    (case a15 => k_is)
    (case l15 => k_is)
    (case c15 => k_is)
    (case k15 => k_is)
    (case a16 => k_is)
    (case l16 => k_is)
    (case c16 => k_is)
    (case k16 => k_is)
    (case a17 => k_is)
    (case l17 => k_is)
    (case c17 => k_is)
    (case k17 => k_is)
    (case a18 => k_is)
    (case l18 => k_is)
    (case c18 => k_is)
    (case k18 => k_is)
    (case a19 => k_is)
    (case l19 => k_is)
    (case c19 => k_is)
    (case k19 => k_is)
    (case a20 => k_is)
    (case l20 => k_is)
    (case c20 => k_is)
    (case k20 => k_is)
    (case a21 => k_is)
    (case l21 => k_is)
    (case c21 => k_is)
    (case k21 => k_is)
    (case a22 => k_is)
    (case l22 => k_is)
    (case c22 => k_is)
    (case k22 => k_is)
    (case a23 => k_is)
    (case l23 => k_is)
    (case c23 => k_is)
    (case k23 => k_is)
    (case a24 => k_is)
    (case l24 => k_is)
    (case c24 => k_is)
    (case k24 => k_is)
    (case a25 => k_is)
    (case l25 => k_is)
    (case c25 => k_is)
    (case k25 => k_is)
    (case a26 => k_is)
    (case l26 => k_is)
    (case c26 => k_is)
    (case k26 => k_is)
    (case a27 => k_is)
    (case l27 => k_is)
    (case c27 => k_is)
    (case k27 => k_is)
    (case a28 => k_is)
    (case l28 => k_is)
    (case c28 => k_is)
    (case k28 => k_is)
    (case a29 => k_is)
    (case l29 => k_is)
    (case c29 => k_is)
    (case k29 => k_is)
    (case a30 => k_is)
    (case l30 => k_is)
    (case c30 => k_is)
    (case k30 => k_is)
    (case a31 => k_is)
    (case l31 => k_is)
    (case c31 => k_is)
    (case k31 => k_is)
    (case a32 => k_is)
    (case l32 => k_is)
    (case c32 => k_is)
    (case k32 => k_is)
    (case a33 => k_is)
    (case l33 => k_is)
    (case c33 => k_is)
    (case k33 => k_is)
    (case a34 => k_is)
    (case l34 => k_is)
    (case c34 => k_is)
    (case k34 => k_is)
    (case a35 => k_is)
    (case l35 => k_is)
    (case c35 => k_is)
    (case k35 => k_is)
    (case a36 => k_is)
    (case l36 => k_is)
    (case c36 => k_is)
    (case k36 => k_is)
    (case a37 => k_is)
    (case l37 => k_is)
    (case c37 => k_is)
    (case k37 => k_is)
    (case a38 => k_is)
    (case l38 => k_is)
    (case c38 => k_is)
    (case k38 => k_is)
    (case a39 => k_is)
    (case l39 => k_is)
    (case c39 => k_is)
    (case k39 => k_is)
    (case a40 => k_is)
    (case l40 => k_is)
    (case c40 => k_is)
    (case k40 => k_is)
    (case a41 => k_is)
    (case l41 => k_is)
    (case c41 => k_is)
    (case k41 => k_is)
    (case a42 => k_is)
    (case l42 => k_is)
    (case c42 => k_is)
    (case k42 => k_is)
    (case a43 => k_is)
    (case l43 => k_is)
    (case c43 => k_is)
    (case k43 => k_is)
    (case a44 => k_is)
    (case l44 => k_is)
    (case c44 => k_is)
    (case k44 => k_is)
    (case a45 => k_is)
    (case l45 => k_is)
    (case c45 => k_is)
    (case k45 => k_is)
    (case a46 => k_is)
    (case l46 => k_is)
    (case c46 => k_is)
    (case k46 => k_is)
    (case a47 => k_is)
    (case l47 => k_is)
    (case c47 => k_is)
    (case k47 => k_is)
    (case a48 => k_is)
    (case l48 => k_is)
    (case c48 => k_is)
    (case k48 => k_is)
    (case z_abs => k_is)
    (case z_bool => k_is)
    (case z_int => k_is)
    (case z_isinstance => k_is)
    (case z_len => k_is)
    (case z_list => k_is)
    (case z_max => k_is)
    (case z_min => k_is)
    (case z_range => k_is)
    (case z_str => k_is)
    (case z_tuple => k_is)
    (case z_zip => k_is)
    (case sp0 => k_is)
    (case tk0 => k_is)
    (case aC_HostError => k_is)
    (case aC_Trap => k_is)
    (case aC_UnknownInstruction => k_is)
    (case aC_BadValues => k_is)
    (case ex_HostError => k_is)
    (case ty_HostError => k_is)
    (case hd_HostError => k_is)
    (case ex_Trap => k_is)
    (case ty_Trap => k_is)
    (case hd_Trap => k_is)
    (case ex_UnknownInstruction => k_is)
    (case ty_UnknownInstruction => k_is)
    (case hd_UnknownInstruction => k_is)
    (case ex_BadValues => k_is)
    (case ty_BadValues => k_is)
    (case hd_BadValues => k_is)
    (case xl_Trap => k_is)
    (case sa_Trap => k_is)
    (case ga_Trap => k_is)
    (case gg_Trap => k_is)
    (case ca_Trap => k_is)
    (case kp_Trap => k_is)
    (case mr_Trap => k_is)
    (case aI_Trap => k_is)
    (case tI_Trap => k_is)
    (case lI_Trap => k_is)
    (case cdo_Trap => k_is)
    (case kI_Trap => k_is)
    (case no_Trap_reason => k_is)
    (case sub_Trap_HostError => first | rfl | k_is)
    (case ne_Trap_HostError => decide)
    (case sub_Trap_Trap => first | rfl | k_is)
    (case sub_Trap_UnknownInstruction => first | rfl | k_is)
    (case ne_Trap_UnknownInstruction => decide)
    (case sub_Trap_BadValues => first | rfl | k_is)
    (case ne_Trap_BadValues => decide)
    (case sub_Trap_VE => first | rfl | k_is)
    (case xl_UnknownInstruction => k_is)
    (case sa_UnknownInstruction => k_is)
    (case ga_UnknownInstruction => k_is)
    (case gg_UnknownInstruction => k_is)
    (case ca_UnknownInstruction => k_is)
    (case kp_UnknownInstruction => k_is)
    (case mr_UnknownInstruction => k_is)
    (case aI_UnknownInstruction => k_is)
    (case tI_UnknownInstruction => k_is)
    (case lI_UnknownInstruction => k_is)
    (case cdo_UnknownInstruction => k_is)
    (case kI_UnknownInstruction => k_is)
    (case no_UnknownInstruction_name => k_is)
    (case sub_UnknownInstruction_HostError => first | rfl | k_is)
    (case ne_UnknownInstruction_HostError => decide)
    (case sub_UnknownInstruction_Trap => first | rfl | k_is)
    (case ne_UnknownInstruction_Trap => decide)
    (case sub_UnknownInstruction_UnknownInstruction => first | rfl | k_is)
    (case sub_UnknownInstruction_BadValues => first | rfl | k_is)
    (case ne_UnknownInstruction_BadValues => decide)
    (case sub_UnknownInstruction_VE => first | rfl | k_is)
    (case x0_BadValues => first | k_exc | k_is)
    (case ga_BadValues => k_is)
    (case gg_BadValues => k_is)
    (case ca_BadValues => k_is)
    (case kp_BadValues => k_is)
    (case mr_BadValues => k_is)
    (case sub_BadValues_HostError => first | rfl | k_is)
    (case ne_BadValues_HostError => decide)
    (case sub_BadValues_Trap => first | rfl | k_is)
    (case ne_BadValues_Trap => decide)
    (case sub_BadValues_UnknownInstruction => first | rfl | k_is)
    (case ne_BadValues_UnknownInstruction => decide)
    (case sub_BadValues_BadValues => first | rfl | k_is)
    (case sub_BadValues_VE => first | rfl | k_is)
    (case at_INSTRUCTIONS => k_is)
    (case lt_INSTRUCTIONS => k_is)
    (case zt_INSTRUCTIONS => exact V.small64 (by decide))
    (case vt_INSTRUCTIONS => exact V.vals_strs _ _ (by decide +kernel))
    (case at_CONVERTED_KINDS => k_is)
    (case lt_CONVERTED_KINDS => k_is)
    (case st_CONVERTED_KINDS => first | rfl | decide)
    (case at_COMPARISONS => k_is)
    (case lt_COMPARISONS => k_is)
    (case zt_COMPARISONS => exact V.small64 (by decide))
    (case vt_COMPARISONS => exact V.vals_strs _ _ (by decide +kernel))
    (case at_ONE_OPERAND => k_is)
    (case lt_ONE_OPERAND => k_is)
    (case st_ONE_OPERAND => first | rfl | decide)
    (case at_TWO_OPERANDS => k_is)
    (case lt_TWO_OPERANDS => k_is)
    (case st_TWO_OPERANDS => first | rfl | decide)
    (case vt_CONVERTED_KINDS => repeat (first | exact True.intro | refine And.intro ⟨_, rfl⟩ (And.intro rfl (And.intro (by first | exact rfl | exact ⟨_, rfl⟩) ?_))))
    (case vt_ONE_OPERAND => repeat (first | exact True.intro | refine And.intro ⟨_, rfl⟩ (And.intro rfl (And.intro (by first | exact rfl | exact ⟨_, rfl⟩) ?_))))
    (case vt_TWO_OPERANDS => repeat (first | exact True.intro | refine And.intro ⟨_, rfl⟩ (And.intro rfl (And.intro (by first | exact rfl | exact ⟨_, rfl⟩) ?_))))
#print axioms PySem.Challenge.cw_wasmhost_k08_operands_refused_holds


