/- What the laws over sets share. No statement of the seat is proved here. -/
import Derived.Test.YtjiciigaeeibgaoSpVar
import Derived.Test.YtjiciigaeeibgaoSpImpl
