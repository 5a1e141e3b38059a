import Derived.Lib.LastIndexByte
import Derived.Lib.IndexLaws
import Derived.IntWalk
import Derived.Test.YtmfapopclbnlpaaGreatDoorSt8
import Derived.Test.YtmfapopclbnlpaaGreatDoorSt10
import Derived.Test.YtmfapopclbnlpaaGreatDoorSt12
set_option linter.unusedVariables false
set_option linter.unusedSimpArgs false
namespace Go.Proofs.YtmfapopclbnlpaaGreatDoor
open Go.RowKit
def iL(l:List UInt8):Nat:=(Lib.lastIndexByte ⟨l.toArray⟩ 46+1).toNat
theorem uU(l:List UInt8)(j:Nat)(h:j<l.length):((((⟨l.toArray⟩:ByteArray).data[j]!).toNat:Int))=aD l j:=by
 have h2:j<l.toArray.size:=by simpa using h
 show((l.toArray[j]!).toNat:Int)=_
 rw [getElem!_pos l.toArray j h2]
 unfold aD
 simp [List.getD,h]
theorem zE(l:List UInt8):iL l≤l.length∧(iL l=0∨aD l (iL l-1)=46)∧(∀j,iL l≤j→j<l.length→aD l j≠46)∧Lib.lastIndexByte ⟨l.toArray⟩ 46=(iL l:Int)-1:=by
 have hs:(⟨l.toArray⟩:ByteArray).size=l.length:=fc l
 rcases Lib.lastIdx_spec ⟨l.toArray⟩ 46 l.length with⟨h1,h2⟩|⟨i,h1,h2,h3,h4⟩
 ·have e:Lib.lastIndexByte ⟨l.toArray⟩ 46=-1:=by unfold Lib.lastIndexByte;rw [hs];exact h1
  have ek:iL l=0:=by unfold iL;rw [e];rfl
  refine ⟨by omega,.inl ek,fun j _ hj=>?_,by rw [e,ek];rfl⟩
  rw [←uU l j hj];exact h2 j hj
 ·have e:Lib.lastIndexByte ⟨l.toArray⟩ 46=i:=by unfold Lib.lastIndexByte;rw [hs];exact h2
  have ek:iL l=i+1:=by unfold iL;rw [e];omega
  refine ⟨by omega,.inr ?_,fun j hj hj2=>?_,by rw [e,ek];omega⟩
  ·rw [ek,show i+1-1=i from rfl,←uU l i h1];exact h3
  ·rw [←uU l j hj2];exact h4 j (by omega) hj2
def tp(t:List UInt8):Bool:=if iI t=true then dH 16 (t.drop 2)else decide (0<t.length)&&dH 10 t
def xe(l:List UInt8)(c:UInt8):Bool:=decide (0≤Lib.indexByte l c)
def dq(l:List UInt8)(c:UInt8):List UInt8:=if 0≤Lib.indexByte l c then l.take (Lib.indexByte l c).toNat else l
def dK(l:List UInt8)(c:UInt8):List UInt8:=if 0≤Lib.indexByte l c then l.drop ((Lib.indexByte l c).toNat+1)else []
theorem uV(l:List UInt8)(c:UInt8):-1≤Lib.indexByte l c∧Lib.indexByte l c<l.length:=by
 refine ⟨Lib.indexByte_ge l c,?_⟩
 rcases Int.lt_or_le (Lib.indexByte l c) 0 with h|h
 ·omega
 ·obtain ⟨o,ho⟩:=Int.eq_ofNat_of_zero_le h
  have h1:=(Lib.indexByte_some ho).1
  have:=(List.getElem?_eq_some_iff.1 h1).1
  omega
theorem zF {a b a' b':List UInt8}{c c':Bool}(h1:a=a')(h2:b=b')(h3:c=c'):Ending.returned (.tuple #[.string ⟨a.toArray⟩,.string ⟨b.toArray⟩,.bool c])=.returned (.tuple #[.string ⟨a'.toArray⟩,.string ⟨b'.toArray⟩,.bool c']):=by rw [h1,h2,h3]
set_option maxHeartbeats 1000000 in
theorem Fw(l:List UInt8)(c:UInt8)(w:World)(hm:l.length≤1000000):
 Calls Tryz.prog 160 #[.string ⟨l.toArray⟩,.string ⟨#[c]⟩] w fun e w'=>e=.returned (.tuple #[.string ⟨(dq l c).toArray⟩,.string ⟨(dK l c).toArray⟩,.bool (xe l c)])∧∃n,w'=w.drewN n:=by
 obtain ⟨h1,h2⟩:=uV l c
 have HI:Hid (∀w,Calls Tryz.prog 168 #[.string ⟨l.toArray⟩,.string ⟨#[c]⟩] w fun e w'=>e=.returned (.int .i64 (Lib.indexByte l c))∧w=w'):=Lib.hid (fun w=>(Tryz.stringslite_Index_one ⟨l.toArray⟩ c w).mono (fun _ _ ⟨p,q⟩=>⟨p,q.symm⟩))
 by_cases h0:0≤Lib.indexByte l c
 ·have HA:Hid (dq l c=l.take (Lib.indexByte l c).toNat):=Lib.hid (by unfold dq;rw [if_pos h0])
  have HB:Hid (dK l c=l.drop ((Lib.indexByte l c).toNat+1)):=Lib.hid (by unfold dK;rw [if_pos h0])
  have HO:Hid (xe l c=true):=Lib.hid (decide_eq_true h0)
  obtain ⟨k,hk⟩:=Int.eq_ofNat_of_zero_le h0
  rw [hk]at HA HB HI h1 h2
  clear h0 hk
  have HK:Hid ((k:Int).toNat=k):=Lib.hid (by omega)
  go_enter Tryz.func160,Tryz.ntmps160
  go_wp2_with fail
  refine (HI.out _).mono ?_
  rintro e w' ⟨rfl,rfl⟩
  go_wp2_with fail
  have g1:IntKind.i64.wrap ((k:Int)+1)=(k:Int)+1:=IntWalk.i64_in _ (by omega)
  have g2:(0:Int)≤(k:Int)+1:=by omega
  have g3:((k:Int)+1).toNat=k+1:=by omega
  have g4:(k:Int)+1≤l.length:=by omega
  have g5:k+1≤l.length:=by omega
  go_quiet (fail)
  go_wp2
  go_ret3
  refine ⟨zF ?_ ?_ ?_,?_⟩
  ·rw [HA.out,HK.out]
  ·rw [HB.out,HK.out]
  ·rw [HO.out]
  ·first|exact ⟨_,rfl⟩|trivial
 ·have HA:Hid (dq l c=l):=Lib.hid (by unfold dq;rw [if_neg h0])
  have HB:Hid (dK l c=[]):=Lib.hid (by unfold dK;rw [if_neg h0])
  have HO:Hid (xe l c=false):=Lib.hid (decide_eq_false h0)
  generalize Lib.indexByte l c=k at *
  go_enter Tryz.func160,Tryz.ntmps160
  go_wp2_with fail
  refine (HI.out _).mono ?_
  rintro e w' ⟨rfl,rfl⟩
  go_wp2_with fail
  go_ret3
  refine ⟨zF HA.out.symm HB.out.symm HO.out.symm,?_⟩
  first|exact ⟨0,rfl⟩|trivial
set_option maxHeartbeats 1000000 in
theorem Bv(l:List UInt8)(c:UInt8)(w:World)(hm:l.length≤1000000):
 Calls Tryz.prog 134 #[.string ⟨l.toArray⟩,.string ⟨#[c]⟩] w fun e w'=>e=.returned (.tuple #[.string ⟨(dq l c).toArray⟩,.string ⟨(dK l c).toArray⟩,.bool (xe l c)])∧∃n,w'=w.drewN n:=by
 have HC:=Lib.hid (Fw l c · hm)
 go_enter Tryz.func134,Tryz.ntmps134
 go_wp2_with fail
 refine (HC.out _).mono ?_
 rintro e w' ⟨rfl,n,rfl⟩
 go_wp2
 go_ret3
 exact ⟨zF rfl rfl rfl,n,rfl⟩
set_option maxHeartbeats 1000000 in
theorem Fx(l:List UInt8)(w:World)(hm:l.length≤1000000):
 Calls Tryz.prog 175 #[.string ⟨l.toArray⟩] w fun e w'=>e=.returned (.bool (tp ((dB l).drop (iL (dB l)))))∧w=w':=by
 have htl:(dB l).length≤l.length:=by unfold dB;split<;>simp
 have HT:=Lib.hid (xd l · hm)
 obtain ⟨s,hs⟩:∃s,dB l=s:=⟨_,rfl⟩
 rw [hs]at HT htl
 rw [hs]
 clear hs
 obtain ⟨k1,-,-,k4⟩:=zE s
 have HI:Hid (∀w,Calls Tryz.prog 133 #[.string ⟨s.toArray⟩,.int .u8 46] w fun e w'=>e=.returned (.int .i64 ((iL s:Int)-1))∧w=w'):=Lib.hid (fun w=>by
  rw [←k4]
  exact (Tryz.strings_LastIndexByte ⟨s.toArray⟩ 46 (by rw [fc];omega) w).mono (fun _ _ ⟨p,q⟩=>⟨p,q.symm⟩))
 clear k4
 obtain ⟨k,hk⟩:∃k,iL s=k:=⟨_,rfl⟩
 rw [hk]at HI k1
 rw [hk]
 clear hk
 have c1:IntKind.i64.wrap ((k:Int)-1+1)=(k:Int):=by rw [IntWalk.i64_in _ (by omega)];omega
 have c2:(k:Int)-1+1=(k:Int):=by omega
 obtain ⟨t,ht⟩:∃t,s.drop k=t:=⟨_,rfl⟩
 have htl2:t.length≤1000000:=by rw [←ht];simp;omega
 have HD:=Lib.hid ht
 rw [ht]
 clear ht
 have HR:=Lib.hid (oG t · htl2)
 cases hp:iI t with
 |true=>
  have HR2:Hid (jd t=t.drop 2):=Lib.hid (by unfold jd;rw [if_pos hp])
  have HE:Hid (tp t=dH 16 (t.drop 2)):=Lib.hid (by unfold tp;rw [if_pos hp])
  rw [hp,HR2.out]at HR
  rw [HE.out]
  have HO:=Lib.hid (iK (t.drop 2) 16 · (by simp;omega) (by decide) (by decide))
  obtain ⟨d,hd⟩:∃d,t.drop 2=d:=⟨_,rfl⟩
  rw [hd]at HO HR
  rw [hd]
  clear hp HR2 HE hd
  go_enter Tryz.func175,Tryz.ntmps175
  go_wp2_with fail
  refine (HT.out _).mono ?_
  rintro e w' ⟨rfl,rfl⟩
  go_wp2_with fail
  refine (HI.out _).mono ?_
  rintro e w' ⟨rfl,rfl⟩
  go_wp2_with fail
  rw [HD.out]
  refine (HR.out _).mono ?_
  rintro e w' ⟨rfl,rfl⟩
  go_wp2_with fail
  refine (HO.out _).mono ?_
  rintro e w' ⟨rfl,rfl⟩
  go_wp2_with fail
  go_ret
  exact ⟨rfl,by trivial⟩
 |false=>
  have HR2:Hid (jd t=[]):=Lib.hid (by unfold jd;rw [if_neg (by rw [hp];simp)])
  have HE:Hid (tp t=(decide (0<t.length)&&dH 10 t)):=Lib.hid (by unfold tp;rw [if_neg (by rw [hp];simp)])
  rw [hp,HR2.out]at HR
  rw [HE.out]
  have HO:=Lib.hid (iK t 10 · htl2 (by decide) (by decide))
  clear hp HR2 HE
  by_cases h0:t=[]
  ·subst h0
   go_enter Tryz.func175,Tryz.ntmps175
   go_wp2_with fail
   refine (HT.out _).mono ?_
   rintro e w' ⟨rfl,rfl⟩
   go_wp2_with fail
   refine (HI.out _).mono ?_
   rintro e w' ⟨rfl,rfl⟩
   go_wp2_with fail
   rw [HD.out]
   refine (HR.out _).mono ?_
   rintro e w' ⟨rfl,rfl⟩
   go_wp2_with fail
   go_ret
   exact ⟨rfl,by trivial⟩
  ·have hlen:0<t.length:=List.length_pos_iff.2 h0
   have g1:(t==[])=false:=by rw [beq_eq_false_iff_ne];exact h0
   have g2:t.isEmpty=false:=by rw [List.isEmpty_eq_false_iff];exact h0
   rw [decide_eq_true hlen,Bool.true_and]
   clear h0
   go_enter Tryz.func175,Tryz.ntmps175
   go_wp2_with fail
   refine (HT.out _).mono ?_
   rintro e w' ⟨rfl,rfl⟩
   go_wp2_with fail
   refine (HI.out _).mono ?_
   rintro e w' ⟨rfl,rfl⟩
   go_wp2_with fail
   rw [HD.out]
   refine (HR.out _).mono ?_
   rintro e w' ⟨rfl,rfl⟩
   go_wp2_with fail
   refine (HO.out _).mono ?_
   rintro e w' ⟨rfl,rfl⟩
   go_wp2_with fail
   go_ret
   exact ⟨rfl,by trivial⟩
theorem C6(l:List UInt8)(c:UInt8):(0≤Lib.indexByte l c)↔c∈l:=by
 constructor
 ·intro h
  obtain ⟨o,ho⟩:=Int.eq_ofNat_of_zero_le h
  exact List.mem_of_getElem? (Lib.indexByte_some ho).1
 ·intro h
  have hge:=Lib.indexByte_ge l c
  rcases Int.lt_or_le (Lib.indexByte l c) 0 with h2|h2
  ·have:=Lib.indexByte_none (show Lib.indexByte l c=-1 by omega)
   obtain ⟨k,hk⟩:=List.mem_iff_getElem?.1 h
   exact absurd hk (this k)
  ·exact h2
theorem Kz {s:List UInt8}{b:Bool}{s':List UInt8}{b':Bool}(h1:s=s')(h2:b=b'):Ending.returned (.tuple #[.string ⟨s.toArray⟩,.bool b])=.returned (.tuple #[.string ⟨s'.toArray⟩,.bool b']):=by rw [h1,h2]
set_option maxHeartbeats 1000000 in
theorem xf(k:Int)(w:World)(h0:-9223372036854775808≤k)(h1:k≤9223372036854775807):
 Calls Tryz.prog 42 #[.int .i64 k] w fun e w'=>e=.returned (.tuple #[.string ⟨(tb k).toArray⟩,.bool (qC k)])∧w=w':=by
 have HO:=Lib.hid (@Fk k)
 have HF:=Lib.hid (@Fl k)
 go_enter Tryz.func42,Tryz.ntmps42
 go_wp2
 all_goals
  go_ret2
  try simp only [beq_iff_eq,beq_eq_false_iff_ne]at *
  refine ⟨Kz ?_ ?_,by trivial⟩
  ·unfold tb
   first
    |(subst_vars;rfl)
    |(repeat rw [if_neg (by omega)])
  ·first|exact (HO.out (by omega)).symm|exact (HF.out (by omega)).symm
set_option maxHeartbeats 1000000 in
theorem uW(has:List UInt8)(r:Int)(w:World)(h0:-2147483648≤r)(h1:r≤2147483647):
 Calls Tryz.prog 43 #[.string ⟨has.toArray⟩,.int .i32 r] w fun e w'=>e=.returned (.bool (CX has r))∧w=w':=by
 by_cases c1:r<0∨1114111<r
 ·have HR:=Lib.hid (H7 (has:=has) c1)
  rcases c1 with c1|c1
  all_goals
   go_enter Tryz.func43,Tryz.ntmps43
   go_wp2_with fail
   go_ret
   exact ⟨dX HR.out.symm,by trivial⟩
 by_cases c2:r<32∨126<r
 ·have HR:=Lib.hid (Fm (has:=has) (r:=r) (by omega) (by omega) c2)
  have c3:0≤r:=by omega
  have c4:r≤1114111:=by omega
  rcases c2 with c2|c2
  all_goals
   go_enter Tryz.func43,Tryz.ntmps43
   go_wp2_with fail
   go_ret
   exact ⟨dX HR.out.symm,by trivial⟩
 ·have c3:32≤r:=by omega
  have c4:r≤126:=by omega
  have HR:=Lib.hid (H9 (has:=has) c3 c4)
  have HM:=Lib.hid (C6 has (ko r))
  clear c1 c2
  go_enter Tryz.func43,Tryz.ntmps43
  go_wp2_with (go_at_call 63;refine (Tryz.strings_IndexByte ⟨has.toArray⟩ r _).mono ?_;rintro e w' ⟨rfl,rfl⟩)
  all_goals
   go_ret
   refine ⟨dX ?_,by trivial⟩
   rw [HR.out,Bool.eq_iff_iff]
   simp only [decide_eq_true_eq]
   exact HM.out
end Go.Proofs.YtmfapopclbnlpaaGreatDoor
