/- Layer 4: what the seven calls of the program do: ringDoes stands in RingN. -/
import Derived.Test.YtbbnfbclbhkneaaRingN
